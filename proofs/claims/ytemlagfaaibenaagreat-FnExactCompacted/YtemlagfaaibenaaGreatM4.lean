/-
  Chapter 4 as lists: what a chunk takes, a walk, an object, a row with an object put into it. What a list of numbers that came in holds: numbers of an int64. Chapter 8 as lists: a free chunk written, what is freed, the places of free chunks. What the program's headAt and sizeBy answer. Chapter 8 as l
-/
import Derived.Test.YtemlagfaaibenaaGreatUnpack
import Derived.Test.YtemlagfaaibenaaGreatM3
import Derived.Test.YtemlagfaaibenaaGreatWordOk
import Derived.Test.YtemlagfaaibenaaGreatM1
import Derived.Test.YtemlagfaaibenaaGreatM2
namespace Go.Proofs.YtemlagfaaibenaaGreat.walks
open Go.RowKit rows heads words
def AllI (xs:List Int):Prop:=∀x ∈ xs,I64 x
theorem allI_at {xs:List Int} (h:AllI xs) {k:Nat} (hk:k<xs.length):I64 (xs.getD k 0):=by
 have e:xs.getD k 0=xs[k]:=by simp[List.getD_eq_getElem?_getD,List.getElem?_eq_getElem hk]
 rw[e]
 exact h _ (List.getElem_mem hk)
theorem allI_nil:AllI []:=fun _ h=>by simp at h
theorem allI_append {xs ys:List Int} (hx:AllI xs) (hy:AllI ys):AllI (xs++ys):=fun x h=>by
 rcases List.mem_append.1 h with h|h
 ·exact hx x h
 ·exact hy x h
theorem allI_take {xs:List Int} (h:AllI xs) (n:Nat):AllI (xs.take n):=fun x hx=>h x (List.mem_of_mem_take hx)
theorem allI_drop {xs:List Int} (h:AllI xs) (n:Nat):AllI (xs.drop n):=fun x hx=>h x (List.mem_of_mem_drop hx)
theorem allI_set {xs:List Int} (h:AllI xs) (k:Nat) {x:Int} (hx:I64 x):AllI (xs.set k x):=fun y hy=>by
 rcases List.mem_or_eq_of_mem_set hy with h'|rfl
 ·exact h y h'
 ·exact hx
theorem uS_bounds (x:Int):0≤uS x∧uS x≤20:=by
 unfold uS
 split
 ·rename_i h
  rw[ok_eq,Bool.and_eq_true]at h
  obtain⟨b1,b2,_⟩:=hok_true h.2
  exact⟨b1,b2⟩
 ·omega
theorem sz_of {s:Int} (h0:0≤s) (h1:s≤20):sz s=s+1+(s+1) % 2:=by simp[sz,inR,h0,h1]
theorem sz_bounds {s:Int} (h0:0≤s) (h1:s≤20):2≤sz s∧sz s≤22∧sz s % 2=0∧s+1≤sz s∧sz s≤s+2:=by rw[sz_of h0 h1];omega
def freeOk (n k:Nat) (y:Int):Bool:=decide (2≤y∧y≤n∧y % 2=0∧(k:Int)+y≤n)
def chunk (xs:List Int) (k:Nat):Int:=
 if (ok (xs.getD k 0) && !uM (xs.getD k 0))=true then
  if uF (xs.getD k 0)=6 then
   if k+1<xs.length∧freeOk xs.length k (xs.getD (k+1) 0)=true then xs.getD (k+1) 0 else 0
  else if (k:Int)+sz (uS (xs.getD k 0))≤xs.length∧(uF (xs.getD k 0)=7→isA (xs.getD (k+1) 0)=true) then sz (uS (xs.getD k 0)) else 0
 else 0
theorem chunk_bounds (xs:List Int) (k:Nat):chunk xs k=0∨(2≤chunk xs k∧chunk xs k % 2=0∧(k:Int)+chunk xs k≤xs.length):=by
 unfold chunk
 split
 ·split
  ·split
   ·rename_i h
    have:=h.2
    simp only[freeOk,decide_eq_true_eq]at this
    omega
   ·exact .inl rfl
  ·split
   ·rename_i h
    obtain⟨b1,b2⟩:=uS_bounds (xs.getD k 0)
    have:=sz_bounds b1 b2
    omega
   ·exact .inl rfl
 ·exact .inl rfl
theorem chunk_le (xs:List Int) (k:Nat):0≤chunk xs k∧chunk xs k≤xs.length:=by
 have:=chunk_bounds xs k
 omega
def chunkAt (xs:List Int) (i:Int):Int:=if okAt xs i=true then chunk xs i.toNat else 0
def walkL (xs:List Int) (t:Nat):Nat→Nat→Option (List Int)
 |0,k=>if k<t then none else some []
 |n+1,k=>if k<t then (if chunk xs k=0∨(k:Int)+chunk xs k > t then none else (walkL xs t n (k+(chunk xs k).toNat)).map ((k:Int) :: ·)) else some []
theorem walkL_end (xs:List Int) (t n k:Nat) (h:¬k<t):walkL xs t n k=some []:=by cases n<;>simp[walkL,h]
theorem walkL_bad (xs:List Int) (t n k:Nat) (h:k<t) (hb:chunk xs k=0∨(k:Int)+chunk xs k > t):walkL xs t n k=none:=by cases n<;>simp[walkL,h,hb]
theorem walkL_step (xs:List Int) (t n k:Nat) (h:k<t) (hb:¬(chunk xs k=0∨(k:Int)+chunk xs k > t)):walkL xs t (n+1) k=(walkL xs t n (k+(chunk xs k).toNat)).map ((k:Int) :: ·):=by simp[walkL,h,hb]
theorem walkL_more (xs:List Int) (t:Nat):∀(n m k:Nat),t-k≤n→t-k≤m→walkL xs t n k=walkL xs t m k:=by
 intro n
 induction n with
 |zero=>intro m k h _;rw[walkL_end _ _ _ _ (by omega),walkL_end _ _ _ _ (by omega)]
 |succ n ih=>
  intro m k h h'
  by_cases h1:k<t
  ·by_cases hb:chunk xs k=0∨(k:Int)+chunk xs k > t
   ·rw[walkL_bad _ _ _ _ h1 hb,walkL_bad _ _ _ _ h1 hb]
   ·have:=chunk_bounds xs k
    obtain⟨m',rfl⟩:∃m',m=m'+1:=⟨m-1,by omega⟩
    rw[walkL_step _ _ _ _ h1 hb,walkL_step _ _ _ _ h1 hb,ih m' _ (by omega) (by omega)]
  ·rw[walkL_end _ _ _ _ h1,walkL_end _ _ _ _ h1]
def walkO (xs:List Int) (k t:Nat):Option (List Int):=walkL xs t (t-k) k
theorem walkO_end {xs:List Int} {k t:Nat} (h:¬k<t):walkO xs k t=some []:=walkL_end _ _ _ _ h
theorem walkO_bad {xs:List Int} {k t:Nat} (h:k<t) (hb:chunk xs k=0∨(k:Int)+chunk xs k > t):walkO xs k t=none:=walkL_bad _ _ _ _ h hb
theorem walkO_step {xs:List Int} {k t:Nat} (h:k<t) (hb:¬(chunk xs k=0∨(k:Int)+chunk xs k > t)):walkO xs k t=(walkO xs (k+(chunk xs k).toNat) t).map ((k:Int) :: ·):=by
 have:=chunk_bounds xs k
 unfold walkO
 obtain⟨m,hm⟩:∃m,t-k=m+1:=⟨t-k-1,by omega⟩
 rw[hm,walkL_step _ _ _ _ h hb,walkL_more xs t m (t-(k+(chunk xs k).toNat)) _ (by omega) (by omega)]
def rangeOk (xs:List Int) (f t:Int):Bool:=rowOk xs&&decide (0≤f∧f≤t∧t≤xs.length)
def walkR (xs:List Int) (f t:Int):Option (List Int):=if rangeOk xs f t=true then walkO xs f.toNat t.toNat else none
def walkOk (xs:List Int) (f t:Int):Bool:=(walkR xs f t).isSome
def walked (xs:List Int) (f t:Int):List Int:=(walkR xs f t).getD []
theorem walkL_length (xs:List Int) (t:Nat) (ht:t≤1048576):∀(n k:Nat) (l:List Int),walkL xs t n k=some l→2*l.length≤t-k∧AllI l:=by
 intro n
 induction n with
 |zero=>
  intro k l h
  unfold walkL at h
  split at h
  ·cases h
  ·cases h;exact⟨by simp,allI_nil⟩
 |succ n ih=>
  intro k l h
  by_cases h1:k<t
  ·by_cases hb:chunk xs k=0∨(k:Int)+chunk xs k > t
   ·rw[walkL_bad _ _ _ _ h1 hb]at h;cases h
   ·have:=chunk_bounds xs k
    rw[walkL_step _ _ _ _ h1 hb]at h
    obtain⟨l',hl',rfl⟩:=Option.map_eq_some_iff.1 h
    obtain⟨i1,i2⟩:=ih _ _ hl'
    refine⟨by simp;omega,fun x hx => ?_⟩
    rcases List.mem_cons.1 hx with rfl|hx
    ·unfold I64;omega
    ·exact i2 x hx
  ·rw[walkL_end _ _ _ _ h1]at h
   cases h;exact⟨by simp,allI_nil⟩
theorem walked_length (xs:List Int) (f t:Int):(walked xs f t).length≤1000∧AllI (walked xs f t):=by
 unfold walked walkR
 split
 ·rename_i h
  simp only[rangeOk,rowOk,Bool.and_eq_true,decide_eq_true_eq]at h
  cases e:walkO xs f.toNat t.toNat with
  |none=>exact⟨by simp,allI_nil⟩
  |some l=>
   have:=walkL_length xs t.toNat (by omega) _ _ _ e
   exact⟨by simp;omega,this.2⟩
 ·exact⟨by simp,allI_nil⟩
def cnt (x:Int):Int:=if uF x=7 then 1 else uS x
def put (xs:List Int) (k:Nat) (hd:Int) (ys:List Int) (j n:Nat):List Int:=xs.take k++(hd :: (ys.take j++List.replicate (n-1-j) 0))++xs.drop (k+n)
theorem put_set {xs ys:List Int} {k j n:Nat} {hd:Int} (h:k+n≤xs.length) (hj:j<ys.length) (hn:ys.length<n):(put xs k hd ys j n).set (k+1+j) (ys.getD j 0)=put xs k hd ys (j+1) n:=by
 apply List.ext_getElem?
 intro i
 simp only[put,List.getElem?_set,List.getElem?_append,List.length_take,List.getElem?_take,List.getElem?_cons,List.length_cons,List.getElem?_replicate,List.length_append,List.length_replicate,List.getElem?_drop,List.length_drop,List.getD_eq_getElem?_getD]
 grind
theorem put_zero {xs ys:List Int} {k n:Nat} {hd:Int} (h:k+n≤xs.length) (hn:0<n):(fill xs k n 0).set k hd=put xs k hd ys 0 n:=by
 apply List.ext_getElem?
 intro i
 simp only[put,fill,List.getElem?_set,List.getElem?_append,List.length_take,List.getElem?_take,List.getElem?_cons,List.length_cons,List.getElem?_replicate,List.length_append,List.length_replicate,List.getElem?_drop,List.length_drop,List.take_zero,List.nil_append]
 grind
theorem put_length {xs ys:List Int} {k j n:Nat} {hd:Int} (h:k+n≤xs.length) (hj:j≤ys.length) (hn:j<n):(put xs k hd ys j n).length=xs.length:=by
 simp[put];omega
end Go.Proofs.YtemlagfaaibenaaGreat.walks
namespace Go.Proofs.YtemlagfaaibenaaGreat.walks
open Go.RowKit rows
theorem row_ints_all {k:IntKind} {w:World} {a:Option Addr} {len cap:Nat} {zs:List Int} (hk:k = .i64)
    (h:(a=none∧len=0∧cap=0∧zs=[])∨∃x,a=some x∧len≤cap∧cap≤maxLen∧zs.length=cap∧(∀i,i<zs.length→w.cell? (x.add i)=some (.int k (zs.getD i 0)))∧∀n ∈ zs,(Lit.int k n).wf=true) :
    ∃xs,xs.length=len∧IntsAt w (.slice a len cap) xs∧AllI xs:=by
 subst hk
 rcases h with ⟨rfl,rfl,rfl,rfl⟩|⟨x,rfl,hl,hm,hz,hc,hwf⟩
 ·exact⟨[],rfl,⟨none,0,rfl,Nat.le_refl _,by decide,fun _=>rfl,fun hp=>absurd hp (by simp)⟩,allI_nil⟩
 ·have e:(zs.take len).length=len:=by simp;omega
  refine⟨zs.take len,e,⟨some x,cap,by rw[e],by omega,hm,fun h=>(by cases h),fun hp => ?_⟩,fun y hy=>i64_of_wf (hwf y (List.mem_of_mem_take hy))⟩
  obtain⟨b,off,rfl,hc'⟩:=ints_at hc (by omega)
  refine⟨b,off,rfl,World.block_lt_of_cell? w _ (hc' 0 (by omega)),fun i hi => ?_⟩
  rw[hc' i (by omega)]
  simp only[List.getD_eq_getElem?_getD]
  rw[List.getElem?_take,if_pos (by omega)]
end Go.Proofs.YtemlagfaaibenaaGreat.walks
namespace Go.Proofs.YtemlagfaaibenaaGreat.walks
open Go.RowKit rows heads words
def freeR (xs:List Int) (k n:Nat):List Int:=put xs k (pk 0 6 0 0 false false) [(n:Int)] 1 n
theorem freeR_set {xs:List Int} {k n:Nat} (h:k+n≤xs.length) (h2:2≤n):((fill xs k n 0).set k (pk 0 6 0 0 false false)).set (k+1) (n:Int)=freeR xs k n:=by
 rw[put_zero (ys:=[(n:Int)]) h (by omega)]
 have:=put_set (xs:=xs) (ys:=[(n:Int)]) (k:=k) (j:=0) (n:=n) (hd:=pk 0 6 0 0 false false) h (by simp) (by simp;omega)
 unfold freeR
 simpa using this
theorem freeR_length {xs:List Int} {k n:Nat} (h:k+n≤xs.length) (h2:2≤n):(freeR xs k n).length=xs.length:=put_length h (by simp) (by omega)
def isFreeAt (xs:List Int) (i:Int):Bool:=uF (xs.getD i.toNat 0)==6
def freeIn (xs:List Int) (f t:Int):List Int:=(walked xs f t).filter (isFreeAt xs)
theorem freeIn_length (xs:List Int) (f t:Int):(freeIn xs f t).length≤1000∧AllI (freeIn xs f t):=by
 have:=walked_length xs f t
 exact⟨Nat.le_trans (List.length_filter_le _ _) this.1,fun x hx=>this.2 x (List.mem_filter.1 hx).1⟩
theorem walkL_mem (xs:List Int) (t:Nat) (_ht:t≤xs.length):∀(n k:Nat) (l:List Int),walkL xs t n k=some l→∀x ∈ l,∃j:Nat,x=j∧k≤j∧j<t∧chunk xs j≠0:=by
 intro n
 induction n with
 |zero=>
  intro k l h
  unfold walkL at h
  split at h
  ·cases h
  ·cases h;simp
 |succ n ih=>
  intro k l h
  by_cases h1:k<t
  ·by_cases hb:chunk xs k=0∨(k:Int)+chunk xs k > t
   ·rw[walkL_bad _ _ _ _ h1 hb]at h;cases h
   ·rw[walkL_step _ _ _ _ h1 hb]at h
    obtain⟨l',hl',rfl⟩:=Option.map_eq_some_iff.1 h
    intro x hx
    rcases List.mem_cons.1 hx with rfl|hx
    ·exact⟨k,rfl,Nat.le_refl _,h1,fun e=>hb (.inl e)⟩
    ·obtain⟨j,a,b,c,d⟩:=ih _ _ hl' x hx
     exact⟨j,a,by omega,c,d⟩
  ·rw[walkL_end _ _ _ _ h1]at h
   cases h;simp
theorem walked_mem {xs:List Int} {f t:Int} {x:Int} (h:x ∈ walked xs f t):∃j:Nat,x=j∧j<xs.length∧rowOk xs=true∧chunk xs j≠0:=by
 unfold walked walkR at h
 split at h
 ·rename_i hr
  simp only[rangeOk,Bool.and_eq_true,decide_eq_true_eq]at hr
  cases e:walkO xs f.toNat t.toNat with
  |none=>rw[e]at h;simp at h
  |some l=>
   rw[e]at h
   obtain⟨j,a,_,c,d⟩:=walkL_mem xs t.toNat (by omega) _ _ _ e x (by simpa using h)
   exact⟨j,a,by omega,hr.1,d⟩
 ·simp at h
end Go.Proofs.YtemlagfaaibenaaGreat.walks
namespace Go.Proofs.YtemlagfaaibenaaGreat.walks
open Go.RowKit rows heads words
set_option maxRecDepth 100000
theorem headAt_no {w:World} {v:Value} {xs:List Int} (h:IntsAt w v xs) (hl:xs.length≤1048576) (i:Int) (hi:I64 i) (d:okAt xs i=false) :
    Calls Tryz.prog 146 #[v,.int .i64 i] w fun e w'=>e = .returned (.tuple #[hv 0 0 0 0 false false,.bool false])∧Below w.heap.size w w':=by
 have B0:Below w.heap.size w (w.alloc (hb 0 0 0 0 false false)):=(Below.refl _ _).alloc (Nat.le_refl _) _
 have T0:=headAt_new w 0 0 0 0 false false
 have s0:w.heap.size+1≤(w.alloc (hb 0 0 0 0 false false)).heap.size:=by simp
 have RD:=implReadAt _ v xs i (intsAt_below h B0) hl hi
 rw[d]at RD
 go_enter Tryz.func146,Tryz.ntmps146
 go_wp2_with fail
 generalize (w.alloc (Obj.cells #[.int .i64 0,.int .i64 0,.int .i64 0,.int .i64 0,.bool false,.bool false] 39))=X at *
 refine RD.mono ?_
 rintro e w1 ⟨rfl,b1⟩
 have T1:=headAt_below T0 b1
 have B1:=B0.trans (b1.mono (by omega))
 obtain⟨t0,t1,t2,t3,t4,t5,tf⟩:=headAt_cells T1
 have f0:=tf 0;have f1:=tf 1;have f2:=tf 2;have f3:=tf 3;have f4:=tf 4;have f5:=tf 5
 have T2:Hid _:=six_set T1 0 0 0 0 false false
 have B2:Hid _:=six_below B1 (Nat.le_refl _) 0 0 0 0 false false
 clear b1 RD T0 B0 B1 tf T1
 generalize readAt xs i=z at *
 go_wp2
 exact bodyPost_ret (v:=.tuple #[hv 0 0 0 0 false false,.bool false]) (res_head_one rfl rfl rfl T2) rfl ⟨rfl,B2⟩
theorem headAt_drew {w:World} {b:Nat} {s f c h:Int} {p m:Bool} (hh:HeadAt w b s f c h p m):HeadAt w.drew b s f c h p m:=hh
theorem headAt_yes {w:World} {v:Value} {xs:List Int} (h:IntsAt w v xs) (hl:xs.length≤1048576) (k:Nat) (d:okAt xs k=true) (hx:I64 (xs.getD k 0)) :
    Calls Tryz.prog 146 #[v,.int .i64 k] w fun e w'=>e = .returned (.tuple #[hv (uS (xs.getD k 0)) (uF (xs.getD k 0)) (uC (xs.getD k 0)) (uH (xs.getD k 0)) (uP (xs.getD k 0)) (uM (xs.getD k 0)),.bool (ok (xs.getD k 0) && !uM (xs.getD k 0))])∧Below w.heap.size w w':=by
 have hk:(k:Int)<xs.length:=(atOk_true (by simp only[okAt,Bool.and_eq_true]at d;exact d.2)).2
 have B0:Below w.heap.size w (w.alloc (hb 0 0 0 0 false false)):=(Below.refl _ _).alloc (Nat.le_refl _) _
 have T0:=headAt_new w 0 0 0 0 false false
 have s0:w.heap.size+1≤(w.alloc (hb 0 0 0 0 false false)).heap.size:=by simp
 have RD:=implReadAt _ v xs k (intsAt_below h B0) hl ⟨by omega,by omega⟩
 have er:readAt xs k=xs.getD k 0:=by simp[readAt,d]
 rw[d,er]at RD
 generalize xs.getD k 0=x at *
 have UN:∀W,_:=fun W=>unpacked_any x hx.2 W
 generalize ok x=o at *
 generalize uS x=s at *
 generalize uF x=f at *
 generalize uC x=c at *
 generalize uH x=g at *
 generalize uP x=p at *
 generalize uM x=m at *
 clear er
 go_enter Tryz.func146,Tryz.ntmps146
 go_wp2_with fail
 generalize (w.alloc (Obj.cells #[.int .i64 0,.int .i64 0,.int .i64 0,.int .i64 0,.bool false,.bool false] 39))=X at *
 refine RD.mono ?_
 rintro e w1 ⟨rfl,b1⟩
 have s1:=b1.size
 have T1:=headAt_below T0 b1
 have B1:=B0.trans (b1.mono (by omega))
 clear b1 RD T0 B0
 go_wp2_with fail
 refine (UN _).mono ?_
 clear UN
 rintro e w2 ⟨rfl,b2⟩
 have s2:=b2.size
 have T2:=headAt_alloc (headAt_below T1 b2) (hb s f c g p m)
 have B2:=(B1.trans (b2.mono (by omega))).alloc (by omega) (hb s f c g p m)
 have N2:=headAt_new w2 s f c g p m
 clear b2 T1 B1
 have ne:w.heap.size≠w2.heap.size:=by omega
 go_wp2_with fail
 generalize hY:w2.alloc (Obj.cells #[.int .i64 s,.int .i64 f,.int .i64 c,.int .i64 g,.bool p,.bool m] 39)=Y at *
 clear hY
 have T2:HeadAt Y w.heap.size 0 0 0 0 false false:=T2
 have N2:HeadAt Y w2.heap.size s f c g p m:=N2
 have B2:Below w.heap.size w Y:=B2
 obtain⟨t0,t1,t2,t3,t4,t5,tf⟩:=headAt_cells T2
 have f0:=tf 0;have f1:=tf 1;have f2:=tf 2;have f3:=tf 3;have f4:=tf 4;have f5:=tf 5
 obtain⟨n0,n1,n2,n3,n4,n5,nf⟩:=headAt_cells N2
 have T3:Hid _:=headAt_drew (six_set T2 s f c g p m)
 have B3:Hid _:=(six_below B2 (Nat.le_refl _) s f c g p m).drew
 clear tf nf N2 B2 T2
 cases o
 ·go_region
  all_goals go_wp2
  all_goals exact bodyPost_ret (v:=.tuple #[hv s f c g p m,.bool false]) (res_head_one rfl rfl rfl T3) rfl ⟨rfl,B3⟩
 ·go_region
  all_goals go_wp2
  all_goals exact bodyPost_ret (v:=.tuple #[hv s f c g p m,.bool (!m)]) (res_head_one rfl rfl rfl T3) rfl ⟨rfl,B3⟩
def csOk (n:Int):Bool:=decide (2≤n∧n % 2=0)
theorem chunkSizeOk_any (n:Int) (w:World) (hn:I64 n) :
    Calls Tryz.prog 154 #[.int .i64 n] w fun e w'=>e = .returned (.bool (csOk n))∧w'=w:=by
 unfold I64 at hn
 by_cases h1:n ≥ 2
 ·by_cases h2:n % 2=0
  ·have e:csOk n=true:=by simp[csOk,h2];omega
   go_enter Tryz.func154,Tryz.ntmps154
   go_wp2
   go_ret
   exact⟨by simp[e],rfl⟩
  ·have e:csOk n=false:=by simp[csOk,h2]
   go_enter Tryz.func154,Tryz.ntmps154
   go_wp2
   go_ret
   exact⟨by simp[e,h2],rfl⟩
 ·have e:csOk n=false:=by simp[csOk];omega
  go_enter Tryz.func154,Tryz.ntmps154
  go_wp2
  go_ret
  exact⟨rfl,rfl⟩
def sbOf (xs:List Int) (k:Nat) (s f:Int):Int:=if f=6 then (if csOk (readAt xs ((k:Int)+1))=true then readAt xs ((k:Int)+1) else 0) else sz s
theorem readAt_I {xs:List Int} (h:AllI xs) (i:Int):I64 (readAt xs i):=by
 unfold readAt
 split
 ·rename_i d
  simp only[okAt,Bool.and_eq_true]at d
  have:=atOk_true d.2
  exact allI_at h (by omega)
 ·exact⟨by decide,by decide⟩
theorem sizeBy_any {w:World} {v:Value} {xs:List Int} (h:IntsAt w v xs) (hl:xs.length≤1048576) (ha:AllI xs) (k:Nat) (hk:k≤1048576) (s f c g:Int) (p m:Bool) :
    Calls Tryz.prog 147 #[v,.int .i64 k,hv s f c g p m] w fun e w'=>e = .returned (.int .i64 (sbOf xs k s f))∧Below w.heap.size w w':=by
 have B0:Below w.heap.size w (w.alloc (hb s f c g p m)):=(Below.refl _ _).alloc (Nat.le_refl _) _
 have s0:w.heap.size≤(w.alloc (hb s f c g p m)).heap.size:=by simp
 have RD:=implReadAt _ v xs ((k:Int)+1) (intsAt_below h B0) hl ⟨by omega,by omega⟩
 have IY:=readAt_I ha ((k:Int)+1)
 by_cases h6:f=6
 ·have e:sbOf xs k s f=if csOk (readAt xs ((k:Int)+1))=true then readAt xs ((k:Int)+1) else 0:=by simp[sbOf,h6]
  rw[e]
  generalize readAt xs ((k:Int)+1)=y at *
  generalize okAt xs ((k:Int)+1)=o at *
  have CS:∀W,_:=fun W=>chunkSizeOk_any y W IY
  subst h6
  clear e ha
  cases d:csOk y
  ·have E:(if false=true then y else 0)=0:=rfl
   rw[E]
   clear E
   go_enter Tryz.func147,Tryz.ntmps147
   go_wp2_with fail
   generalize (w.alloc (Obj.cells #[.int .i64 s,.int .i64 6,.int .i64 c,.int .i64 g,.bool p,.bool m] 39))=X at *
   refine RD.mono ?_
   rintro e w1 ⟨rfl,b1⟩
   have B1:Hid _:=B0.trans (b1.mono s0)
   clear b1 RD B0
   go_wp2_with (go_at_call 154;refine (CS _).mono ?_;rintro e w2 ⟨rfl,rfl⟩)
   go_ret
   exact⟨rfl,B1⟩
  ·have E:(if true=true then y else 0)=y:=rfl
   rw[E]
   clear E
   go_enter Tryz.func147,Tryz.ntmps147
   go_wp2_with fail
   generalize (w.alloc (Obj.cells #[.int .i64 s,.int .i64 6,.int .i64 c,.int .i64 g,.bool p,.bool m] 39))=X at *
   refine RD.mono ?_
   rintro e w1 ⟨rfl,b1⟩
   have B1:Hid _:=B0.trans (b1.mono s0)
   clear b1 RD B0
   go_wp2_with (go_at_call 154;refine (CS _).mono ?_;rintro e w2 ⟨rfl,rfl⟩)
   go_ret
   exact⟨rfl,B1⟩
 ·have e:sbOf xs k s f=sz s:=by simp[sbOf,h6]
  rw[e]
  clear RD e
  go_enter Tryz.func147,Tryz.ntmps147
  go_wp2_with (go_at_call 153;refine (sizeOf_any _ _).mono ?_;rintro e w2 ⟨rfl,rfl⟩)
  go_ret
  exact⟨rfl,B0⟩
end Go.Proofs.YtemlagfaaibenaaGreat.walks
namespace Go.Proofs.YtemlagfaaibenaaGreat.walks
open Go.RowKit rows heads words
theorem pk6:pk 0 6 0 0 false false=384:=by decide
theorem ok6:ok 384=true∧uF 384=6∧uM 384=false:=by decide
theorem freeR_getD {xs:List Int} {k n:Nat} (h:k+n≤xs.length) (h2:2≤n) (i:Nat):(freeR xs k n).getD i 0=if i=k then 384 else if i=k+1 then (n:Int) else if k≤i∧i<k+n then 0 else xs.getD i 0:=by
 simp only[freeR,put,pk6,List.getD_eq_getElem?_getD,List.getElem?_append,List.length_take,List.getElem?_take,List.getElem?_cons,List.length_cons,List.getElem?_replicate,List.length_append,List.length_replicate,List.getElem?_drop,List.length_nil,List.getElem?_nil]
 grind
theorem freeR_twice {xs:List Int} {k n m:Nat} (h:k+m≤xs.length) (h2:2≤n) (hn:n≤m):freeR (freeR xs k n) k m=freeR xs k m:=by
 have h1:=freeR_length (xs:=xs) (k:=k) (n:=n) (by omega) h2
 apply List.ext_getElem
 ·rw[freeR_length (xs:=freeR xs k n) (k:=k) (n:=m) (by omega) (by omega),freeR_length (xs:=xs) (k:=k) (n:=m) h (by omega),h1]
 ·intro i hi hi'
  have e:∀(l:List Int) (hl:i<l.length),l[i]=l.getD i 0:=fun l hl=>by simp[List.getD_eq_getElem?_getD,List.getElem?_eq_getElem hl]
  rw[e _ hi,e _ hi',freeR_getD (xs:=freeR xs k n) (k:=k) (n:=m) (by omega) (by omega),freeR_getD (xs:=xs) (k:=k) (n:=m) h (by omega),freeR_getD (xs:=xs) (k:=k) (n:=n) (by omega) h2]
  split
  ·rfl
  ·split
   ·rfl
   ·split
    ·rfl
    ·rw[if_neg (by omega)]
theorem chunk_congr {r xs:List Int} {k:Nat} (hl:r.length=xs.length) (h0:r.getD k 0=xs.getD k 0) (h1:r.getD (k+1) 0=xs.getD (k+1) 0):chunk r k=chunk xs k:=by
 unfold chunk
 rw[h0,h1,hl]
theorem chunk_freeR {xs:List Int} {k n:Nat} (h:k+n≤xs.length) (h2:2≤n) (he:n % 2=0):chunk (freeR xs k n) k=n:=by
 have hl:=freeR_length h h2
 have h0:(freeR xs k n).getD k 0=384:=by rw[freeR_getD h h2,if_pos rfl]
 have h1:(freeR xs k n).getD (k+1) 0=n:=by rw[freeR_getD h h2,if_neg (by omega),if_pos rfl]
 unfold chunk
 rw[h0,h1,hl,ok6.1,ok6.2.1,ok6.2.2]
 simp only[Bool.not_false,Bool.and_true,if_true]
 rw[if_pos]
 refine⟨by omega,?_⟩
 simp only[freeOk,decide_eq_true_eq]
 omega
def finR (xs acc:List Int) (a n:Nat):List Int:=if (n:Int)=chunk xs a then acc else freeR acc a n
def runs (xs:List Int):List Nat→Option (Nat×Nat)→List Int→List Int
 | [],none,acc=>acc
 | [],some (a,n),acc=>finR xs acc a n
 |p :: ps,none,acc=>if uF (xs.getD p 0)=6 then runs xs ps (some (p,(chunk xs p).toNat)) acc else runs xs ps none acc
 |p :: ps,some (a,n),acc=>if uF (xs.getD p 0)=6 then (if a+n=p then runs xs ps (some (a,n+(chunk xs p).toNat)) acc else runs xs ps (some (p,(chunk xs p).toNat)) (finR xs acc a n)) else runs xs ps (some (a,n)) acc
def Chain (xs:List Int) (t:Nat):Nat→List Nat→Prop
 |k,[]=>k=t
 |k,p :: ps=>k=p∧k<t∧chunk xs k≠0∧k+(chunk xs k).toNat≤t∧Chain xs t (k+(chunk xs k).toNat) ps
theorem chain_le {xs:List Int} {t:Nat}:∀ {ps:List Nat} {k:Nat},Chain xs t k ps→k≤t
 | [],_,h=>Nat.le_of_eq h
 |_ :: _,_,h=>Nat.le_of_lt h.2.1
theorem chain_walkL (xs:List Int) (t:Nat):∀(n k:Nat) (l:List Int),k≤t→walkL xs t n k=some l→Chain xs t k (l.map Int.toNat):=by
 intro n
 induction n with
 |zero=>
  intro k l hk h
  unfold walkL at h
  split at h
  ·cases h
  ·cases h;show k=t;omega
 |succ n ih=>
  intro k l hk h
  by_cases h1:k<t
  ·by_cases hb:chunk xs k=0∨(k:Int)+chunk xs k > t
   ·rw[walkL_bad _ _ _ _ h1 hb]at h;cases h
   ·rw[walkL_step _ _ _ _ h1 hb]at h
    obtain⟨l',hl',rfl⟩:=Option.map_eq_some_iff.1 h
    have:=chunk_le xs k
    have hle:k+(chunk xs k).toNat≤t:=by omega
    exact⟨by simp,h1,fun e=>hb (.inl e),hle,ih _ _ hle hl'⟩
  ·rw[walkL_end _ _ _ _ h1]at h
   cases h;show k=t;omega
def appR (xs:List Int):Option (Nat×Nat)→List Int→List Int
 |none,acc=>acc
 |some (a,n),acc=>finR xs acc a n
def Same (xs r:List Int) (k:Nat):Prop:=r.length=xs.length∧∀i,k≤i→r.getD i 0=xs.getD i 0
theorem Same.mono {xs r:List Int} {k j:Nat} (h:Same xs r k) (hk:k≤j):Same xs r j:=⟨h.1,fun i hi=>h.2 i (by omega)⟩
theorem Same.chunk {xs r:List Int} {k j:Nat} (h:Same xs r k) (hk:k≤j):chunk r j=walks.chunk xs j:=chunk_congr h.1 (h.2 j hk) (h.2 (j+1) (by omega))
def St1 (xs:List Int) (t:Nat) (G r:List Int) (a n:Nat):Prop:=∃(ps:List Nat) (acc:List Int),Chain xs t (a+n) ps∧t≤xs.length∧uF (xs.getD a 0)=6∧chunk xs a≠0∧chunk xs a≤n∧n % 2=0∧r=finR xs acc a n∧Same xs acc a∧G=runs xs ps (some (a,n)) acc
def St2 (xs:List Int) (t:Nat) (G r:List Int) (k:Nat):Prop:=∃(ps:List Nat) (cur:Option (Nat×Nat)) (acc:List Int),Chain xs t k ps∧t≤xs.length∧r=appR xs cur acc∧Same xs r k∧(∀a n,cur=some (a,n)→a+n≤k∧(a+n=k→k<t→¬uF (xs.getD k 0)=6))∧G=runs xs ps cur acc
theorem st_start {xs:List Int} {t k:Nat} {ps:List Nat} (h:Chain xs t k ps) (ht:t≤xs.length):St2 xs t (runs xs ps none xs) xs k:=⟨ps,none,xs,h,ht,rfl,⟨rfl,fun _ _=>rfl⟩,(fun _ _ e=>by cases e),rfl⟩
theorem st_end {xs G r:List Int} {t k:Nat} (h:St2 xs t G r k) (hk:¬k<t):r=G:=by
 obtain⟨ps,cur,acc,hc,_,hr,_,_,hG⟩:=h
 cases ps with
 |nil=>rw[hr,hG];cases cur<;>rfl
 |cons p ps=>exact absurd hc.2.1 hk
theorem st_facts {xs G r:List Int} {t k:Nat} (h:St2 xs t G r k) (hk:k<t):chunk r k=chunk xs k∧uF (r.getD k 0)=uF (xs.getD k 0)∧chunk xs k≠0∧k+(chunk xs k).toNat≤t∧r.length=xs.length∧t≤xs.length:=by
 obtain⟨ps,cur,acc,hc,ht,hr,hs,_,hG⟩:=h
 cases ps with
 |nil=>exact absurd hc (by show ¬k=t;omega)
 |cons p ps=>exact⟨hs.chunk (Nat.le_refl _),by rw[hs.2 k (Nat.le_refl _)],hc.2.2.1,hc.2.2.2.1,hs.1,ht⟩
theorem st_free {xs G r:List Int} {t k:Nat} (h:St2 xs t G r k) (hk:k<t) (hf:uF (xs.getD k 0)=6):St1 xs t G r k (chunk xs k).toNat:=by
 obtain⟨ps,cur,acc,hc,ht,hr,hs,hcur,hG⟩:=h
 have hb:=chunk_bounds xs k
 cases ps with
 |nil=>exact absurd hc (by show ¬k=t;omega)
 |cons p ps=>
  obtain⟨rfl,h2,h3,h4,h5⟩:=hc
  refine⟨ps,r,h5,ht,hf,h3,by omega,by omega,?_,hs,?_⟩
  ·unfold finR;rw[if_pos (by omega)]
  ·rw[hG,hr]
   cases cur with
   |none=>simp only[runs,if_pos hf,appR]
   |some c=>
    obtain⟨a,n⟩:=c
    have:=hcur a n rfl
    simp only[runs,if_pos hf,appR]
    rw[if_neg (fun e=>this.2 e h2 hf)]
theorem st_pass {xs G r:List Int} {t k:Nat} (h:St2 xs t G r k) (hk:k<t) (hf:¬uF (xs.getD k 0)=6):St2 xs t G r (k+(chunk xs k).toNat):=by
 obtain⟨ps,cur,acc,hc,ht,hr,hs,hcur,hG⟩:=h
 have hb:=chunk_bounds xs k
 cases ps with
 |nil=>exact absurd hc (by show ¬k=t;omega)
 |cons p ps=>
  obtain⟨rfl,h2,h3,h4,h5⟩:=hc
  refine⟨ps,cur,acc,h5,ht,hr,hs.mono (by omega),fun a n e => ?_,?_⟩
  ·have:=(hcur a n e).1
   exact⟨by omega,fun e=>by omega⟩
  ·rw[hG]
   cases cur with
   |none=>simp only[runs,if_neg hf]
   |some c=>simp only[runs,if_neg hf]
theorem st1_facts {xs G r:List Int} {t a n:Nat} (h:St1 xs t G r a n):chunk r a=n∧uF (r.getD a 0)=6∧2≤n∧a+n≤t∧r.length=xs.length∧t≤xs.length∧Same xs r (a+n)∧r.getD (a+1) 0=n:=by
 obtain⟨ps,acc,hc,ht,hf,h0,hn,he,hr,hs,hG⟩:=h
 have hle:=chain_le hc
 have hb:=chunk_bounds xs a
 have hw:chunk xs a=xs.getD (a+1) 0:=by
  have h0':=h0
  by_cases q1:(ok (xs.getD a 0) && !uM (xs.getD a 0))=true
  ·by_cases q2:a+1<xs.length∧freeOk xs.length a (xs.getD (a+1) 0)=true
   ·unfold chunk
    rw[if_pos q1,if_pos hf,if_pos q2]
   ·refine absurd ?_ h0'
    unfold chunk
    rw[if_pos q1,if_pos hf,if_neg q2]
  ·refine absurd ?_ h0'
   unfold chunk
   rw[if_neg q1]
 unfold finR at hr
 by_cases e:(n:Int)=chunk xs a
 ·rw[if_pos e]at hr
  subst hr
  exact⟨by rw[hs.chunk (Nat.le_refl _),e],by rw[hs.2 a (Nat.le_refl _)];exact hf,by omega,hle,hs.1,ht,hs.mono (by omega),by rw[hs.2 (a+1) (by omega),←hw,e]⟩
 ·rw[if_neg e]at hr
  subst hr
  have hl:a+n≤acc.length:=by rw[hs.1];omega
  refine⟨chunk_freeR hl (by omega) he,by rw[freeR_getD hl (by omega),if_pos rfl];exact ok6.2.1,by omega,hle,by rw[freeR_length hl (by omega)];exact hs.1,ht,⟨by rw[freeR_length hl (by omega)];exact hs.1,fun i hi => ?_⟩,by rw[freeR_getD hl (by omega),if_neg (by omega),if_pos rfl]⟩
  rw[freeR_getD hl (by omega),if_neg (by omega),if_neg (by omega),if_neg (by omega)]
  exact hs.2 i (by omega)
theorem st1_join {xs G r:List Int} {t a n:Nat} (h:St1 xs t G r a n) (hk:a+n<t) (hf:uF (xs.getD (a+n) 0)=6):chunk xs (a+n)≠0∧a+(n+(chunk xs (a+n)).toNat)≤t∧St1 xs t G (freeR r a (n+(chunk xs (a+n)).toNat)) a (n+(chunk xs (a+n)).toNat):=by
 have F:=st1_facts h
 obtain⟨ps,acc,hc,ht,hf0,h0,hn,he,hr,hs,hG⟩:=h
 cases ps with
 |nil=>exact absurd hc (by show ¬a+n=t;omega)
 |cons p ps=>
  obtain⟨rfl,h2,h3,h4,h5⟩:=hc
  have hb:=chunk_bounds xs (a+n)
  have hb0:=chunk_bounds xs a
  have hl:a+(n+(chunk xs (a+n)).toNat)≤acc.length:=by rw[hs.1];omega
  refine⟨h3,by omega,ps,acc,by rw[←Nat.add_assoc];exact h5,ht,hf0,h0,by omega,by omega,?_,hs,?_⟩
  ·have en:¬((n+(chunk xs (a+n)).toNat:Nat):Int)=chunk xs a:=by omega
   rw[hr]
   unfold finR
   rw[if_neg en]
   split
   ·rfl
   ·exact freeR_twice hl (by omega) (by omega)
  ·rw[hG]
   simp only[runs,if_pos hf,if_true]
theorem st1_done {xs G r:List Int} {t a n:Nat} (h:St1 xs t G r a n) (hk:¬(a+n<t∧uF (xs.getD (a+n) 0)=6)):St2 xs t G r (a+n):=by
 have F:=st1_facts h
 obtain⟨ps,acc,hc,ht,hf0,h0,hn,he,hr,hs,hG⟩:=h
 exact⟨ps,some (a,n),acc,hc,ht,hr,F.2.2.2.2.2.2.1,fun a' n' e=>by cases e;exact⟨Nat.le_refl _,fun _ h1 h2=>hk ⟨h1,h2⟩⟩,hG⟩
def coal (xs:List Int) (f t:Int):List Int:=if walkOk xs f t=true then runs xs ((walked xs f t).map Int.toNat) none xs else if rowOk xs=true then xs else []
theorem walkL_congr {xs ys:List Int} (t:Nat):∀(n k:Nat) (l:List Int),walkL xs t n k=some l→(∀p ∈ l,chunk ys p.toNat=chunk xs p.toNat)→walkL ys t n k=some l:=by
 intro n
 induction n with
 |zero=>intro k l h _;unfold walkL at h ⊢; exact h
 |succ n ih=>
  intro k l h hc
  by_cases h1:k<t
  ·by_cases hb:chunk xs k=0∨(k:Int)+chunk xs k > t
   ·rw[walkL_bad _ _ _ _ h1 hb]at h;cases h
   ·rw[walkL_step _ _ _ _ h1 hb]at h
    obtain⟨l',hl',rfl⟩:=Option.map_eq_some_iff.1 h
    have e:chunk ys k=chunk xs k:=by
     have:=hc (k:Int) (by simp)
     rwa [Int.toNat_natCast]at this
    rw[walkL_step _ _ _ _ h1 (by rw[e];exact hb),e,ih _ _ hl' (fun p hp=>hc p (by simp[hp]))]
    rfl
  ·rw[walkL_end _ _ _ _ h1]at h ⊢
   exact h
theorem walkO_congr {xs ys:List Int} {f t:Nat} {l:List Int} (h:walkO xs f t=some l) (hc:∀p ∈ l,chunk ys p.toNat=chunk xs p.toNat):walkO ys f t=some l:=walkL_congr t _ _ _ h hc
theorem walk_chain {xs:List Int} {t:Nat}:∀(qs:List Nat) (n k:Nat),t-k≤n→Chain xs t k qs→walkL xs t n k=some (qs.map (fun q:Nat=>(q:Int))):=by
 intro qs
 induction qs with
 |nil=>
  intro n k hn h
  have e:k=t:=h
  rw[walkL_end _ _ _ _ (by omega)]
  rfl
 |cons q qs ih=>
  intro n k hn h
  obtain⟨rfl,h1,h2,h3,h4⟩:=h
  have hb:=chunk_bounds xs k
  obtain⟨m,rfl⟩:∃m,n=m+1:=⟨n-1,by omega⟩
  rw[walkL_step _ _ _ _ h1 (by omega),ih _ _ (by omega) h4]
  rfl
abbrev Run:=Nat×Nat
def stepR (xs:List Int) (R:List Run) (p:Nat):List Run:=
 match R.getLast? with
 |some c=>if c.1+c.2=p then R.dropLast++[(c.1,c.2+(chunk xs p).toNat)] else R++[(p,(chunk xs p).toNat)]
 |none=>[(p,(chunk xs p).toNat)]
theorem stepR_none (xs:List Int) (p:Nat):stepR xs [] p=[(p,(chunk xs p).toNat)]:=rfl
theorem stepR_grow (xs:List Int) (R:List Run) (a n:Nat):stepR xs (R++[(a,n)]) (a+n)=R++[(a,n+(chunk xs (a+n)).toNat)]:=by
 unfold stepR
 rw[List.getLast?_concat]
 simp only[if_true,List.dropLast_concat]
theorem stepR_new (xs:List Int) (R:List Run) {a n p:Nat} (h:¬a+n=p):stepR xs (R++[(a,n)]) p=R++[(a,n)]++[(p,(chunk xs p).toNat)]:=by
 unfold stepR
 rw[List.getLast?_concat]
 simp only[h,if_false]
def writeR (xs:List Int) (R:List Run) (acc:List Int):List Int:=R.foldl (fun acc c=>finR xs acc c.1 c.2) acc
theorem writeR_snoc (xs:List Int) (R:List Run) (a n:Nat) (acc:List Int):writeR xs (R++[(a,n)]) acc=finR xs (writeR xs R acc) a n:=by
 unfold writeR
 rw[List.foldl_append]
 rfl
theorem runs_by (xs:List Int):∀(ps:List Nat) (R:List Run) (acc:List Int),
    (writeR xs ((ps.filter fun p=>uF (xs.getD p 0)==6).foldl (stepR xs) []) acc=runs xs ps none acc) ∧
    ∀a n,writeR xs ((ps.filter fun p=>uF (xs.getD p 0)==6).foldl (stepR xs) (R++[(a,n)])) acc=runs xs ps (some (a,n)) (writeR xs R acc):=by
 have one:∀(ps:List Nat) (R:List Run) (acc:List Int) (a n:Nat),writeR xs ((ps.filter fun p=>uF (xs.getD p 0)==6).foldl (stepR xs) (R++[(a,n)])) acc=runs xs ps (some (a,n)) (writeR xs R acc):=by
  intro ps
  induction ps with
  |nil=>intro R acc a n;exact writeR_snoc xs R a n acc
  |cons p ps ih=>
   intro R acc a n
   by_cases hf:uF (xs.getD p 0)=6
   ·simp only[List.filter_cons,hf,beq_self_eq_true,if_true,List.foldl_cons,runs]
    by_cases e:a+n=p
    ·subst e
     rw[stepR_grow,if_pos rfl]
     exact ih R acc a _
    ·rw[stepR_new xs R e,if_neg e,ih (R++[(a,n)]) acc p _,writeR_snoc]
   ·have hf':(uF (xs.getD p 0)==6)=false:=by simpa using hf
    simp only[List.filter_cons,hf',Bool.false_eq_true,if_false,runs,hf]
    exact ih R acc a n
 intro ps R acc
 refine⟨?_,fun a n=>one ps R acc a n⟩
 induction ps with
 |nil=>rfl
 |cons p ps ih=>
  by_cases hf:uF (xs.getD p 0)=6
  ·simp only[List.filter_cons,hf,beq_self_eq_true,if_true,List.foldl_cons,runs]
   exact one ps [] acc p _
  ·have hf':(uF (xs.getD p 0)==6)=false:=by simpa using hf
   simp only[List.filter_cons,hf',Bool.false_eq_true,if_false,runs,hf]
   exact ih
def InRow (xs:List Int) (R:List Run):Prop:=∀c ∈ R,2≤c.2∧c.1+c.2≤xs.length
theorem inRow_step {xs:List Int} {R:List Run} {p:Nat} (h:InRow xs R) (hp:chunk xs p≠0):InRow xs (stepR xs R p):=by
 have hb:=chunk_bounds xs p
 have hnew:2≤(chunk xs p).toNat∧p+(chunk xs p).toNat≤xs.length:=by omega
 rcases List.eq_nil_or_concat R with rfl|⟨R',c,rfl⟩
 ·intro c hc
  rw[stepR_none,List.mem_singleton]at hc
  subst hc
  exact hnew
 ·obtain⟨a,n⟩:=c
  rw[List.concat_eq_append]at h ⊢
  by_cases e:a+n=p
  ·subst e
   rw[stepR_grow]
   intro c hc
   rcases List.mem_append.1 hc with hc|hc
   ·exact h c (List.mem_append_left _ hc)
   ·rw[List.mem_singleton]at hc
    subst hc
    have:=h (a,n) (by simp)
    exact⟨by simp only;omega,by simp only;omega⟩
  ·rw[stepR_new xs R' e]
   intro c hc
   rcases List.mem_append.1 hc with hc|hc
   ·exact h c hc
   ·rw[List.mem_singleton]at hc
    subst hc
    exact hnew
theorem stepR_length (xs:List Int) (R:List Run) (p:Nat):(stepR xs R p).length≤R.length+1:=by
 rcases List.eq_nil_or_concat R with rfl|⟨R',c,rfl⟩
 ·simp[stepR]
 ·obtain⟨a,n⟩:=c
  rw[List.concat_eq_append]
  by_cases e:a+n=p
  ·subst e
   rw[stepR_grow];simp
  ·rw[stepR_new xs R' e];simp
def runsT (xs:List Int) (ps:List Nat) (k:Nat):List Run:=(ps.take k).foldl (stepR xs) []
theorem runsT_next (xs:List Int) {ps:List Nat} {k:Nat} (hk:k<ps.length):runsT xs ps (k+1)=stepR xs (runsT xs ps k) (ps.getD k 0):=by
 unfold runsT
 rw[List.take_add_one,List.foldl_append,List.getElem?_eq_getElem hk,List.getD_eq_getElem?_getD,List.getElem?_eq_getElem hk]
 rfl
theorem runsT_length (xs:List Int) (ps:List Nat):∀k,(runsT xs ps k).length≤k:=by
 intro k
 induction k with
 |zero=>simp[runsT]
 |succ k ih=>
  by_cases hk:k<ps.length
  ·rw[runsT_next xs hk]
   have:=stepR_length xs (runsT xs ps k) (ps.getD k 0)
   omega
  ·have e:runsT xs ps (k+1)=runsT xs ps k:=by
     unfold runsT
     rw[List.take_of_length_le (by omega),List.take_of_length_le (by omega)]
   rw[e];omega
theorem runsT_in {xs:List Int} {ps:List Nat} (h:∀p ∈ ps,chunk xs p≠0):∀k,InRow xs (runsT xs ps k):=by
 intro k
 induction k with
 |zero=>intro c hc;simp[runsT]at hc
 |succ k ih=>
  by_cases hk:k<ps.length
  ·rw[runsT_next xs hk]
   exact inRow_step ih (h _ (by rw[List.getD_eq_getElem?_getD,List.getElem?_eq_getElem hk];exact List.getElem_mem hk))
  ·have e:runsT xs ps (k+1)=runsT xs ps k:=by
     unfold runsT
     rw[List.take_of_length_le (by omega),List.take_of_length_le (by omega)]
   rw[e];exact ih
def cellsF:List Run→List Value
 | []=>[]
 |c :: R => .int .i64 (c.1:Int) :: .int .i64 (c.2:Int) :: cellsF R
theorem cellsF_append:∀(R R':List Run),cellsF (R++R')=cellsF R++cellsF R'
 | [],_=>rfl
 |c :: R,R'=>by simp[cellsF,cellsF_append R R']
theorem cellsF_length:∀R:List Run,(cellsF R).length=R.length*2
 | []=>rfl
 |c :: R=>by simp[cellsF,cellsF_length R];omega
theorem cellsF_get:∀(R:List Run) (i:Nat),i<R.length→(cellsF R)[i*2]? = some (.int .i64 ((R.getD i (0,0)).1:Int))∧(cellsF R)[i*2+1]? = some (.int .i64 ((R.getD i (0,0)).2:Int))
 | [],i,h=>absurd h (Nat.not_lt_zero _)
 |c :: R,0,_=>⟨rfl,rfl⟩
 |c :: R,i+1,h=>by
  have:=cellsF_get R i (by simpa using h)
  rw[show (i+1)*2=i*2+2 by omega]
  exact this
theorem cellsF_grow (R:List Run) (a n m:Nat):(cellsF (R++[(a,n)])).set (R.length*2+1) (.int .i64 (m:Int))=cellsF (R++[(a,m)]):=by
 rw[cellsF_append,cellsF_append,List.set_append_right _ _ (by rw[cellsF_length];omega),cellsF_length,show R.length*2+1-R.length*2=1 by omega]
 rfl
theorem cellsF_one (R:List Run):∀v ∈ cellsF R,v.oneCell'=true:=by
 induction R with
 |nil=>intro v hv;simp[cellsF]at hv
 |cons c R ih=>
  intro v hv
  simp only[cellsF,List.mem_cons]at hv
  rcases hv with rfl|rfl|hv
  ·rfl
  ·rfl
  ·exact ih v hv
end Go.Proofs.YtemlagfaaibenaaGreat.walks
