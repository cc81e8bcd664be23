/-
  Chapter 4 as lists: what a chunk takes, a walk, an object, a row with an object put into it. The functions of chapter 1 once more, each by one contract for every argument. What a list of numbers that came in holds: numbers of an int64. Chapter 8 as lists: a free chunk written, what is freed, the pla
-/
import Derived.Test.YtkiognecebgaiaaGreatDoorUnpack
import Derived.Test.YtkiognecebgaiaaGreatDoorM5
import Derived.Test.YtkiognecebgaiaaGreatDoorWordOk
import Derived.Test.YtkiognecebgaiaaGreatDoorM1
import Derived.Test.YtkiognecebgaiaaGreatDoorM3
import Derived.RangeFuncNested
import Derived.RangeFuncCalls
import Derived.RangeFuncLeaves
import Derived.Shelf.Abstract
import Derived.WalkKit
import Derived.OwnWalkIn
import Derived.TacticsInMore
import Derived.LoopNIn
import Derived.LoopIn
import Derived.Maps.AppendAt
import Derived.Maps.OwnIn
namespace Go.Proofs.YtkiognecebgaiaaGreatDoor.walks
open Go.RowKit rows heads words
def AllI (xs:List Int):Prop:=∀x ∈ xs,I64 x
theorem allI_at {xs:List Int} (h:AllI xs) {k:Nat} (hk:k<xs.length):I64 (xs.getD k 0):=by
 have e:xs.getD k 0=xs[k]:=by simp[List.getD_eq_getElem?_getD,List.getElem?_eq_getElem hk]
 rw[e]
 exact h _ (List.getElem_mem hk)
theorem allI_nil:AllI []:=fun _ h=>by simp at h
theorem allI_take {xs:List Int} (h:AllI xs) (n:Nat):AllI (xs.take n):=fun x hx=>h x (List.mem_of_mem_take hx)
theorem uS_bounds (x:Int):0≤uS x∧uS x≤20:=by
 unfold uS
 split
 ·rename_i h
  rw[ok_eq,Bool.and_eq_true]at h
  obtain⟨b1,b2,_⟩:=hok_true h.2
  exact⟨b1,b2⟩
 ·omega
theorem sz_of {s:Int} (h0:0≤s) (h1:s≤20):sz s=s+1+(s+1) % 2:=by simp[sz,inR,h0,h1]
theorem sz_bounds {s:Int} (h0:0≤s) (h1:s≤20):2≤sz s∧sz s≤22∧sz s % 2=0∧s+1≤sz s∧sz s≤s+2:=by rw[sz_of h0 h1];omega
def freeOk (n k:Nat) (y:Int):Bool:=decide (2≤y∧y≤n∧y % 2=0∧(k:Int)+y≤n)
def chunk (xs:List Int) (k:Nat):Int:=
 if (ok (xs.getD k 0) && !uM (xs.getD k 0))=true then
  if uF (xs.getD k 0)=6 then
   if k+1<xs.length∧freeOk xs.length k (xs.getD (k+1) 0)=true then xs.getD (k+1) 0 else 0
  else if (k:Int)+sz (uS (xs.getD k 0))≤xs.length∧(uF (xs.getD k 0)=7→isA (xs.getD (k+1) 0)=true) then sz (uS (xs.getD k 0)) else 0
 else 0
theorem chunk_bounds (xs:List Int) (k:Nat):chunk xs k=0∨(2≤chunk xs k∧chunk xs k % 2=0∧(k:Int)+chunk xs k≤xs.length):=by
 unfold chunk
 split
 ·split
  ·split
   ·rename_i h
    have:=h.2
    simp only[freeOk,decide_eq_true_eq]at this
    omega
   ·exact .inl rfl
  ·split
   ·rename_i h
    obtain⟨b1,b2⟩:=uS_bounds (xs.getD k 0)
    have:=sz_bounds b1 b2
    omega
   ·exact .inl rfl
 ·exact .inl rfl
theorem chunk_le (xs:List Int) (k:Nat):0≤chunk xs k∧chunk xs k≤xs.length:=by
 have:=chunk_bounds xs k
 omega
def walkL (xs:List Int) (t:Nat):Nat→Nat→Option (List Int)
 |0,k=>if k<t then none else some []
 |n+1,k=>if k<t then (if chunk xs k=0∨(k:Int)+chunk xs k > t then none else (walkL xs t n (k+(chunk xs k).toNat)).map ((k:Int) :: ·)) else some []
theorem walkL_end (xs:List Int) (t n k:Nat) (h:¬k<t):walkL xs t n k=some []:=by cases n<;>simp[walkL,h]
theorem walkL_bad (xs:List Int) (t n k:Nat) (h:k<t) (hb:chunk xs k=0∨(k:Int)+chunk xs k > t):walkL xs t n k=none:=by cases n<;>simp[walkL,h,hb]
theorem walkL_step (xs:List Int) (t n k:Nat) (h:k<t) (hb:¬(chunk xs k=0∨(k:Int)+chunk xs k > t)):walkL xs t (n+1) k=(walkL xs t n (k+(chunk xs k).toNat)).map ((k:Int) :: ·):=by simp[walkL,h,hb]
theorem walkL_more (xs:List Int) (t:Nat):∀(n m k:Nat),t-k≤n→t-k≤m→walkL xs t n k=walkL xs t m k:=by
 intro n
 induction n with
 |zero=>intro m k h _;rw[walkL_end _ _ _ _ (by omega),walkL_end _ _ _ _ (by omega)]
 |succ n ih=>
  intro m k h h'
  by_cases h1:k<t
  ·by_cases hb:chunk xs k=0∨(k:Int)+chunk xs k > t
   ·rw[walkL_bad _ _ _ _ h1 hb,walkL_bad _ _ _ _ h1 hb]
   ·have:=chunk_bounds xs k
    obtain⟨m',rfl⟩:∃m',m=m'+1:=⟨m-1,by omega⟩
    rw[walkL_step _ _ _ _ h1 hb,walkL_step _ _ _ _ h1 hb,ih m' _ (by omega) (by omega)]
  ·rw[walkL_end _ _ _ _ h1,walkL_end _ _ _ _ h1]
def walkO (xs:List Int) (k t:Nat):Option (List Int):=walkL xs t (t-k) k
theorem walkO_end {xs:List Int} {k t:Nat} (h:¬k<t):walkO xs k t=some []:=walkL_end _ _ _ _ h
theorem walkO_bad {xs:List Int} {k t:Nat} (h:k<t) (hb:chunk xs k=0∨(k:Int)+chunk xs k > t):walkO xs k t=none:=walkL_bad _ _ _ _ h hb
theorem walkO_step {xs:List Int} {k t:Nat} (h:k<t) (hb:¬(chunk xs k=0∨(k:Int)+chunk xs k > t)):walkO xs k t=(walkO xs (k+(chunk xs k).toNat) t).map ((k:Int) :: ·):=by
 have:=chunk_bounds xs k
 unfold walkO
 obtain⟨m,hm⟩:∃m,t-k=m+1:=⟨t-k-1,by omega⟩
 rw[hm,walkL_step _ _ _ _ h hb,walkL_more xs t m (t-(k+(chunk xs k).toNat)) _ (by omega) (by omega)]
def rangeOk (xs:List Int) (f t:Int):Bool:=rowOk xs&&decide (0≤f∧f≤t∧t≤xs.length)
def walkR (xs:List Int) (f t:Int):Option (List Int):=if rangeOk xs f t=true then walkO xs f.toNat t.toNat else none
def walkOk (xs:List Int) (f t:Int):Bool:=(walkR xs f t).isSome
def walked (xs:List Int) (f t:Int):List Int:=(walkR xs f t).getD []
theorem walkL_length (xs:List Int) (t:Nat) (ht:t≤1048576):∀(n k:Nat) (l:List Int),walkL xs t n k=some l→2*l.length≤t-k∧AllI l:=by
 intro n
 induction n with
 |zero=>
  intro k l h
  unfold walkL at h
  split at h
  ·cases h
  ·cases h;exact⟨by simp,allI_nil⟩
 |succ n ih=>
  intro k l h
  by_cases h1:k<t
  ·by_cases hb:chunk xs k=0∨(k:Int)+chunk xs k > t
   ·rw[walkL_bad _ _ _ _ h1 hb]at h;cases h
   ·have:=chunk_bounds xs k
    rw[walkL_step _ _ _ _ h1 hb]at h
    obtain⟨l',hl',rfl⟩:=Option.map_eq_some_iff.1 h
    obtain⟨i1,i2⟩:=ih _ _ hl'
    refine⟨by simp;omega,fun x hx => ?_⟩
    rcases List.mem_cons.1 hx with rfl|hx
    ·unfold I64;omega
    ·exact i2 x hx
  ·rw[walkL_end _ _ _ _ h1]at h
   cases h;exact⟨by simp,allI_nil⟩
theorem walked_length (xs:List Int) (f t:Int):(walked xs f t).length≤1000∧AllI (walked xs f t):=by
 unfold walked walkR
 split
 ·rename_i h
  simp only[rangeOk,rowOk,Bool.and_eq_true,decide_eq_true_eq]at h
  cases e:walkO xs f.toNat t.toNat with
  |none=>exact⟨by simp,allI_nil⟩
  |some l=>
   have:=walkL_length xs t.toNat (by omega) _ _ _ e
   exact⟨by simp;omega,this.2⟩
 ·exact⟨by simp,allI_nil⟩
def put (xs:List Int) (k:Nat) (hd:Int) (ys:List Int) (j n:Nat):List Int:=xs.take k++(hd :: (ys.take j++List.replicate (n-1-j) 0))++xs.drop (k+n)
end Go.Proofs.YtkiognecebgaiaaGreatDoor.walks
namespace Go.Proofs.YtkiognecebgaiaaGreatDoor.words
open Go.RowKit
def iv (n:Int):Int:=if isI n then n / 4 else 0
def av (n:Int):Int:=if isA n then n / 4-1 else 0
def oa (a:Int):Int:=if 0≤a∧a≤999 then (a+1)*4 else 2
theorem intOf_any (n:Int) (w:World) (b1 : -9223372036854775808≤n) (b2:n≤9223372036854775807) :
    Calls Tryz.prog 186 #[.int .i64 n] w fun e w'=>e = .returned (.tuple #[.int .i64 (iv n),.bool (isI n)])∧w'=w:=by
 cases hi:isI n
 ·have e:iv n=0:=by simp[iv,hi]
  rw[e];exact intOf_no n w b1 b2 hi
 ·have e:iv n=n / 4:=by simp[iv,hi]
  rw[e];exact intOf_yes n w b1 b2 hi
theorem addrOf_any (n:Int) (w:World) (b1 : -9223372036854775808≤n) (b2:n≤9223372036854775807) :
    Calls Tryz.prog 196 #[.int .i64 n] w fun e w'=>e = .returned (.tuple #[.int .i64 (av n),.bool (isA n)])∧w'=w:=by
 cases hi:isA n
 ·have e:av n=0:=by simp[av,hi]
  rw[e];exact addrOf_no n w b1 b2 hi
 ·have e:av n=n / 4-1:=by simp[av,hi]
  rw[e];exact addrOf_yes n w b1 b2 hi
theorem sIntOf_any (n:Int) (w:World) :
    Calls Tryz.prog 131 #[.int .i64 n] w fun e w'=>e = .returned (.tuple #[.int .i64 (iv n),.bool (isI n)])∧w'=w:=by
 cases hi:isI n
 ·have e:iv n=0:=by simp[iv,hi]
  rw[e];exact sIntOf_no n w hi
 ·have e:iv n=n / 4:=by simp[iv,hi]
  rw[e];exact sIntOf_yes n w hi
theorem sAddrOf_any (n:Int) (w:World) :
    Calls Tryz.prog 97 #[.int .i64 n] w fun e w'=>e = .returned (.tuple #[.int .i64 (av n),.bool (isA n)])∧w'=w:=by
 cases hi:isA n
 ·have e:av n=0:=by simp[av,hi]
  rw[e];exact sAddrOf_no n w hi
 ·have e:av n=n / 4-1:=by simp[av,hi]
  rw[e];exact sAddrOf_yes n w hi
end Go.Proofs.YtkiognecebgaiaaGreatDoor.words
namespace Go.Proofs.YtkiognecebgaiaaGreatDoor.walks
open Go.RowKit rows
theorem row_ints_all {k:IntKind} {w:World} {a:Option Addr} {len cap:Nat} {zs:List Int} (hk:k = .i64)
    (h:(a=none∧len=0∧cap=0∧zs=[])∨∃x,a=some x∧len≤cap∧cap≤maxLen∧zs.length=cap∧(∀i,i<zs.length→w.cell? (x.add i)=some (.int k (zs.getD i 0)))∧∀n ∈ zs,(Lit.int k n).wf=true) :
    ∃xs,xs.length=len∧IntsAt w (.slice a len cap) xs∧AllI xs:=by
 subst hk
 rcases h with ⟨rfl,rfl,rfl,rfl⟩|⟨x,rfl,hl,hm,hz,hc,hwf⟩
 ·exact⟨[],rfl,⟨none,0,rfl,Nat.le_refl _,by decide,fun _=>rfl,fun hp=>absurd hp (by simp)⟩,allI_nil⟩
 ·have e:(zs.take len).length=len:=by simp;omega
  refine⟨zs.take len,e,⟨some x,cap,by rw[e],by omega,hm,fun h=>(by cases h),fun hp => ?_⟩,fun y hy=>i64_of_wf (hwf y (List.mem_of_mem_take hy))⟩
  obtain⟨b,off,rfl,hc'⟩:=ints_at hc (by omega)
  refine⟨b,off,rfl,World.block_lt_of_cell? w _ (hc' 0 (by omega)),fun i hi => ?_⟩
  rw[hc' i (by omega)]
  simp only[List.getD_eq_getElem?_getD]
  rw[List.getElem?_take,if_pos (by omega)]
end Go.Proofs.YtkiognecebgaiaaGreatDoor.walks
namespace Go.Proofs.YtkiognecebgaiaaGreatDoor.walks
open Go.RowKit rows heads words
theorem walkL_mem (xs:List Int) (t:Nat) (_ht:t≤xs.length):∀(n k:Nat) (l:List Int),walkL xs t n k=some l→∀x ∈ l,∃j:Nat,x=j∧k≤j∧j<t∧chunk xs j≠0:=by
 intro n
 induction n with
 |zero=>
  intro k l h
  unfold walkL at h
  split at h
  ·cases h
  ·cases h;simp
 |succ n ih=>
  intro k l h
  by_cases h1:k<t
  ·by_cases hb:chunk xs k=0∨(k:Int)+chunk xs k > t
   ·rw[walkL_bad _ _ _ _ h1 hb]at h;cases h
   ·rw[walkL_step _ _ _ _ h1 hb]at h
    obtain⟨l',hl',rfl⟩:=Option.map_eq_some_iff.1 h
    intro x hx
    rcases List.mem_cons.1 hx with rfl|hx
    ·exact⟨k,rfl,Nat.le_refl _,h1,fun e=>hb (.inl e)⟩
    ·obtain⟨j,a,b,c,d⟩:=ih _ _ hl' x hx
     exact⟨j,a,by omega,c,d⟩
  ·rw[walkL_end _ _ _ _ h1]at h
   cases h;simp
theorem walked_mem {xs:List Int} {f t:Int} {x:Int} (h:x ∈ walked xs f t):∃j:Nat,x=j∧j<xs.length∧rowOk xs=true∧chunk xs j≠0:=by
 unfold walked walkR at h
 split at h
 ·rename_i hr
  simp only[rangeOk,Bool.and_eq_true,decide_eq_true_eq]at hr
  cases e:walkO xs f.toNat t.toNat with
  |none=>rw[e]at h;simp at h
  |some l=>
   rw[e]at h
   obtain⟨j,a,_,c,d⟩:=walkL_mem xs t.toNat (by omega) _ _ _ e x (by simpa using h)
   exact⟨j,a,by omega,hr.1,d⟩
 ·simp at h
end Go.Proofs.YtkiognecebgaiaaGreatDoor.walks
namespace Go.Proofs.YtkiognecebgaiaaGreatDoor.walks
open Go.RowKit rows heads words
set_option maxRecDepth 100000
theorem headAt_no {w:World} {v:Value} {xs:List Int} (h:IntsAt w v xs) (hl:xs.length≤1048576) (i:Int) (hi:I64 i) (d:okAt xs i=false) :
    Calls Tryz.prog 208 #[v,.int .i64 i] w fun e w'=>e = .returned (.tuple #[hv 0 0 0 0 false false,.bool false])∧Below w.heap.size w w':=by
 have B0:Below w.heap.size w (w.alloc (hb 0 0 0 0 false false)):=(Below.refl _ _).alloc (Nat.le_refl _) _
 have T0:=headAt_new w 0 0 0 0 false false
 have s0:w.heap.size+1≤(w.alloc (hb 0 0 0 0 false false)).heap.size:=by simp
 have RD:=implReadAt _ v xs i (intsAt_below h B0) hl hi
 rw[d]at RD
 go_enter Tryz.func208,Tryz.ntmps208
 go_wp2_with fail
 generalize (w.alloc (Obj.cells #[.int .i64 0,.int .i64 0,.int .i64 0,.int .i64 0,.bool false,.bool false] 101))=X at *
 refine RD.mono ?_
 rintro e w1 ⟨rfl,b1⟩
 have T1:=headAt_below T0 b1
 have B1:=B0.trans (b1.mono (by omega))
 obtain⟨t0,t1,t2,t3,t4,t5,tf⟩:=headAt_cells T1
 have f0:=tf 0;have f1:=tf 1;have f2:=tf 2;have f3:=tf 3;have f4:=tf 4;have f5:=tf 5
 have T2:Hid _:=six_set T1 0 0 0 0 false false
 have B2:Hid _:=six_below B1 (Nat.le_refl _) 0 0 0 0 false false
 clear b1 RD T0 B0 B1 tf T1
 generalize readAt xs i=z at *
 go_wp2
 exact bodyPost_ret (v:=.tuple #[hv 0 0 0 0 false false,.bool false]) (res_head_one rfl rfl rfl T2) rfl ⟨rfl,B2⟩
theorem headAt_drew {w:World} {b:Nat} {s f c h:Int} {p m:Bool} (hh:HeadAt w b s f c h p m):HeadAt w.drew b s f c h p m:=hh
theorem headAt_yes {w:World} {v:Value} {xs:List Int} (h:IntsAt w v xs) (hl:xs.length≤1048576) (k:Nat) (d:okAt xs k=true) (hx:I64 (xs.getD k 0)) :
    Calls Tryz.prog 208 #[v,.int .i64 k] w fun e w'=>e = .returned (.tuple #[hv (uS (xs.getD k 0)) (uF (xs.getD k 0)) (uC (xs.getD k 0)) (uH (xs.getD k 0)) (uP (xs.getD k 0)) (uM (xs.getD k 0)),.bool (ok (xs.getD k 0) && !uM (xs.getD k 0))])∧Below w.heap.size w w':=by
 have hk:(k:Int)<xs.length:=(atOk_true (by simp only[okAt,Bool.and_eq_true]at d;exact d.2)).2
 have B0:Below w.heap.size w (w.alloc (hb 0 0 0 0 false false)):=(Below.refl _ _).alloc (Nat.le_refl _) _
 have T0:=headAt_new w 0 0 0 0 false false
 have s0:w.heap.size+1≤(w.alloc (hb 0 0 0 0 false false)).heap.size:=by simp
 have RD:=implReadAt _ v xs k (intsAt_below h B0) hl ⟨by omega,by omega⟩
 have er:readAt xs k=xs.getD k 0:=by simp[readAt,d]
 rw[d,er]at RD
 generalize xs.getD k 0=x at *
 have UN:∀W,_:=fun W=>unpacked_any x hx.2 W
 generalize ok x=o at *
 generalize uS x=s at *
 generalize uF x=f at *
 generalize uC x=c at *
 generalize uH x=g at *
 generalize uP x=p at *
 generalize uM x=m at *
 clear er
 go_enter Tryz.func208,Tryz.ntmps208
 go_wp2_with fail
 generalize (w.alloc (Obj.cells #[.int .i64 0,.int .i64 0,.int .i64 0,.int .i64 0,.bool false,.bool false] 101))=X at *
 refine RD.mono ?_
 rintro e w1 ⟨rfl,b1⟩
 have s1:=b1.size
 have T1:=headAt_below T0 b1
 have B1:=B0.trans (b1.mono (by omega))
 clear b1 RD T0 B0
 go_wp2_with fail
 refine (UN _).mono ?_
 clear UN
 rintro e w2 ⟨rfl,b2⟩
 have s2:=b2.size
 have T2:=headAt_alloc (headAt_below T1 b2) (hb s f c g p m)
 have B2:=(B1.trans (b2.mono (by omega))).alloc (by omega) (hb s f c g p m)
 have N2:=headAt_new w2 s f c g p m
 clear b2 T1 B1
 have ne:w.heap.size≠w2.heap.size:=by omega
 go_wp2_with fail
 generalize hY:w2.alloc (Obj.cells #[.int .i64 s,.int .i64 f,.int .i64 c,.int .i64 g,.bool p,.bool m] 101)=Y at *
 clear hY
 have T2:HeadAt Y w.heap.size 0 0 0 0 false false:=T2
 have N2:HeadAt Y w2.heap.size s f c g p m:=N2
 have B2:Below w.heap.size w Y:=B2
 obtain⟨t0,t1,t2,t3,t4,t5,tf⟩:=headAt_cells T2
 have f0:=tf 0;have f1:=tf 1;have f2:=tf 2;have f3:=tf 3;have f4:=tf 4;have f5:=tf 5
 obtain⟨n0,n1,n2,n3,n4,n5,nf⟩:=headAt_cells N2
 have T3:Hid _:=headAt_drew (six_set T2 s f c g p m)
 have B3:Hid _:=(six_below B2 (Nat.le_refl _) s f c g p m).drew
 clear tf nf N2 B2 T2
 cases o
 ·go_region
  all_goals go_wp2
  all_goals exact bodyPost_ret (v:=.tuple #[hv s f c g p m,.bool false]) (res_head_one rfl rfl rfl T3) rfl ⟨rfl,B3⟩
 ·go_region
  all_goals go_wp2
  all_goals exact bodyPost_ret (v:=.tuple #[hv s f c g p m,.bool (!m)]) (res_head_one rfl rfl rfl T3) rfl ⟨rfl,B3⟩
def csOk (n:Int):Bool:=decide (2≤n∧n % 2=0)
theorem chunkSizeOk_any (n:Int) (w:World) (hn:I64 n) :
    Calls Tryz.prog 219 #[.int .i64 n] w fun e w'=>e = .returned (.bool (csOk n))∧w'=w:=by
 unfold I64 at hn
 by_cases h1:n ≥ 2
 ·by_cases h2:n % 2=0
  ·have e:csOk n=true:=by simp[csOk,h2];omega
   go_enter Tryz.func219,Tryz.ntmps219
   go_wp2
   go_ret
   exact⟨by simp[e],rfl⟩
  ·have e:csOk n=false:=by simp[csOk,h2]
   go_enter Tryz.func219,Tryz.ntmps219
   go_wp2
   go_ret
   exact⟨by simp[e,h2],rfl⟩
 ·have e:csOk n=false:=by simp[csOk];omega
  go_enter Tryz.func219,Tryz.ntmps219
  go_wp2
  go_ret
  exact⟨rfl,rfl⟩
def sbOf (xs:List Int) (k:Nat) (s f:Int):Int:=if f=6 then (if csOk (readAt xs ((k:Int)+1))=true then readAt xs ((k:Int)+1) else 0) else sz s
theorem readAt_I {xs:List Int} (h:AllI xs) (i:Int):I64 (readAt xs i):=by
 unfold readAt
 split
 ·rename_i d
  simp only[okAt,Bool.and_eq_true]at d
  have:=atOk_true d.2
  exact allI_at h (by omega)
 ·exact⟨by decide,by decide⟩
theorem sizeBy_any {w:World} {v:Value} {xs:List Int} (h:IntsAt w v xs) (hl:xs.length≤1048576) (ha:AllI xs) (k:Nat) (hk:k≤1048576) (s f c g:Int) (p m:Bool) :
    Calls Tryz.prog 209 #[v,.int .i64 k,hv s f c g p m] w fun e w'=>e = .returned (.int .i64 (sbOf xs k s f))∧Below w.heap.size w w':=by
 have B0:Below w.heap.size w (w.alloc (hb s f c g p m)):=(Below.refl _ _).alloc (Nat.le_refl _) _
 have s0:w.heap.size≤(w.alloc (hb s f c g p m)).heap.size:=by simp
 have RD:=implReadAt _ v xs ((k:Int)+1) (intsAt_below h B0) hl ⟨by omega,by omega⟩
 have IY:=readAt_I ha ((k:Int)+1)
 by_cases h6:f=6
 ·have e:sbOf xs k s f=if csOk (readAt xs ((k:Int)+1))=true then readAt xs ((k:Int)+1) else 0:=by simp[sbOf,h6]
  rw[e]
  generalize readAt xs ((k:Int)+1)=y at *
  generalize okAt xs ((k:Int)+1)=o at *
  have CS:∀W,_:=fun W=>chunkSizeOk_any y W IY
  subst h6
  clear e ha
  cases d:csOk y
  ·have E:(if false=true then y else 0)=0:=rfl
   rw[E]
   clear E
   go_enter Tryz.func209,Tryz.ntmps209
   go_wp2_with fail
   generalize (w.alloc (Obj.cells #[.int .i64 s,.int .i64 6,.int .i64 c,.int .i64 g,.bool p,.bool m] 101))=X at *
   refine RD.mono ?_
   rintro e w1 ⟨rfl,b1⟩
   have B1:Hid _:=B0.trans (b1.mono s0)
   clear b1 RD B0
   go_wp2_with (go_at_call 219;refine (CS _).mono ?_;rintro e w2 ⟨rfl,rfl⟩)
   go_ret
   exact⟨rfl,B1⟩
  ·have E:(if true=true then y else 0)=y:=rfl
   rw[E]
   clear E
   go_enter Tryz.func209,Tryz.ntmps209
   go_wp2_with fail
   generalize (w.alloc (Obj.cells #[.int .i64 s,.int .i64 6,.int .i64 c,.int .i64 g,.bool p,.bool m] 101))=X at *
   refine RD.mono ?_
   rintro e w1 ⟨rfl,b1⟩
   have B1:Hid _:=B0.trans (b1.mono s0)
   clear b1 RD B0
   go_wp2_with (go_at_call 219;refine (CS _).mono ?_;rintro e w2 ⟨rfl,rfl⟩)
   go_ret
   exact⟨rfl,B1⟩
 ·have e:sbOf xs k s f=sz s:=by simp[sbOf,h6]
  rw[e]
  clear RD e
  go_enter Tryz.func209,Tryz.ntmps209
  go_wp2_with (go_at_call 218;refine (sizeOf_any _ _).mono ?_;rintro e w2 ⟨rfl,rfl⟩)
  go_ret
  exact⟨rfl,B0⟩
theorem sbOf_I {xs:List Int} (ha:AllI xs) (k:Nat) (s f:Int):I64 (sbOf xs k s f):=by
 have:=readAt_I ha ((k:Int)+1)
 unfold sbOf
 split
 ·split
  ·exact this
  ·exact⟨by decide,by decide⟩
 ·unfold sz I64
  split
  ·rename_i h;have:=inR_true h;omega
  ·omega
theorem cutOk_of {len:Nat} {f n:Int} (h:0≤f∧0≤n∧f+n≤len):cutOk len f n=true:=by simpa [cutOk] using h
theorem chunk_by {xs:List Int} {k:Nat} (d:okAt xs k=true) (e:(ok (xs.getD k 0) && !uM (xs.getD k 0))=true) :
    chunk xs k=if cutOk xs.length k (sbOf xs k (uS (xs.getD k 0)) (uF (xs.getD k 0)))=true∧sbOf xs k (uS (xs.getD k 0)) (uF (xs.getD k 0))≠0∧(uF (xs.getD k 0)=7→isA (xs.getD (k+1) 0)=true)
     then sbOf xs k (uS (xs.getD k 0)) (uF (xs.getD k 0)) else 0:=by
 have bs:=uS_bounds (xs.getD k 0)
 have zs:=sz_bounds bs.1 bs.2
 simp only[okAt,Bool.and_eq_true]at d
 have hk:=atOk_true d.2
 unfold chunk
 rw[if_pos e]
 unfold sbOf
 by_cases h6:uF (xs.getD k 0)=6
 ·rw[if_pos h6,if_pos h6,h6]
  by_cases hk1:k+1<xs.length
  ·have er:readAt xs ((k:Int)+1)=xs.getD (k+1) 0:=by
     have:okAt xs ((k:Int)+1)=true:=by simp only[okAt,Bool.and_eq_true];exact⟨d.1,by simp[atOk];omega⟩
     simp only[readAt,this,if_true]
     congr 1
   rw[er]
   generalize xs.getD (k+1) 0=y
   by_cases hf:freeOk xs.length k y=true
   ·have hf':=hf
    simp only[freeOk,decide_eq_true_eq]at hf'
    have hc:csOk y=true:=by simp[csOk];omega
    rw[if_pos ⟨hk1,hf⟩,if_pos hc,if_pos]
    exact⟨cutOk_of (by omega),by omega,by omega⟩
   ·rw[if_neg (by simp[hf])]
    by_cases hc:csOk y=true
    ·rw[if_pos hc,if_neg]
     rintro⟨h1,h2,_⟩
     simp only[freeOk,decide_eq_true_eq]at hf
     simp only[csOk,decide_eq_true_eq]at hc
     have:=cutOk_true h1
     omega
    ·rw[if_neg hc,if_neg (by simp)]
  ·have er:readAt xs ((k:Int)+1)=0:=by
     have:okAt xs ((k:Int)+1)=false:=by simp[okAt,atOk];omega
     simp[readAt,this]
   rw[er,if_neg (by omega)]
   simp
 ·rw[if_neg h6,if_neg h6]
  by_cases hc:(k:Int)+sz (uS (xs.getD k 0))≤xs.length∧(uF (xs.getD k 0)=7→isA (xs.getD (k+1) 0)=true)
  ·rw[if_pos hc,if_pos]
   exact⟨cutOk_of (by omega),by omega,hc.2⟩
  ·rw[if_neg hc,if_neg]
   rintro⟨h1,_,h3⟩
   have:=cutOk_true h1
   exact hc ⟨by omega,h3⟩
theorem sbOf_two (xs:List Int) (k:Nat) (s f:Int):sbOf xs k s f=0∨2≤sbOf xs k s f:=by
 unfold sbOf
 split
 ·split
  ·rename_i h
   simp only[csOk,decide_eq_true_eq]at h
   exact .inr h.1
  ·exact .inl rfl
 ·unfold sz
  split
  ·rename_i h;have:=inR_true h;omega
  ·exact .inl rfl
abbrev noChunk:Value:=.tuple #[cv 0 0 0 0 false false (.slice none 0 0),.bool false]
theorem chunkOf_out {w:World} {v:Value} {xs:List Int} (h:IntsAt w v xs) (hl:xs.length≤1048576) (i:Int) (hi:I64 i) (d:okAt xs i=false) :
    Calls Tryz.prog 192 #[v,.int .i64 i] w fun e w'=>e = .returned noChunk∧Below w.heap.size w w':=by
 have B0:Below w.heap.size w (w.alloc (cb 0 0 0 0 false false (.slice none 0 0))):=(Below.refl _ _).alloc (Nat.le_refl _) _
 have T0:=chAt_new w 0 0 0 0 false false (.slice none 0 0)
 have s0:w.heap.size+1≤(w.alloc (cb 0 0 0 0 false false (.slice none 0 0))).heap.size:=by simp
 have RD:=headAt_no (intsAt_below h B0) hl i hi d
 go_enter Tryz.func192,Tryz.ntmps192
 go_wp2_with fail
 generalize (w.alloc (Obj.cells #[.int .i64 0,.int .i64 0,.int .i64 0,.int .i64 0,.bool false,.bool false,.slice none 0 0] 195))=X at *
 refine RD.mono ?_
 rintro e w1 ⟨rfl,b1⟩
 have s1:=b1.size
 have T1:=chAt_alloc (chAt_below T0 b1) (hb 0 0 0 0 false false)
 have B1:=(B0.trans (b1.mono (by omega))).alloc (by omega) (hb 0 0 0 0 false false)
 obtain⟨t0,t1,t2,t3,t4,t5,t6,tf⟩:=chAt_cells T1
 have f0:=tf 0;have f1:=tf 1;have f2:=tf 2;have f3:=tf 3;have f4:=tf 4;have f5:=tf 5;have f6:=tf 6
 have T2:Hid _:=seven_set T1 0 0 0 0 false false (.slice none 0 0)
 have B2:Hid _:=seven_below B1 (Nat.le_refl _) 0 0 0 0 false false (.slice none 0 0)
 clear b1 RD T0 B0 B1 tf T1
 go_wp2
 exact bodyPost_ret (v:=noChunk) (res_chunk_one rfl rfl rfl T2) rfl ⟨rfl,B2⟩
def chRes (a:Option Addr) (xs:List Int) (k:Nat):Value:=
 if chunk xs k=0 then noChunk else .tuple #[cv (uS (xs.getD k 0)) (uF (xs.getD k 0)) (uC (xs.getD k 0)) (uH (xs.getD k 0)) (uP (xs.getD k 0)) (uM (xs.getD k 0)) (piece a k (chunk xs k).toNat),.bool true]
set_option maxHeartbeats 1000000 in
theorem chunkOf_in {w:World} {a:Option Addr} {cap:Nat} {xs:List Int} (h:IntsAt w (.slice a xs.length cap) xs) (hl:xs.length≤1048576) (ha:AllI xs) (k:Nat) (d:okAt xs k=true) :
    Calls Tryz.prog 192 #[.slice a xs.length cap,.int .i64 k] w fun e w'=>e = .returned (chRes a xs k)∧Below w.heap.size w w':=by
 have h':=h
 obtain⟨a',cap',e',hlc,hcm,hnil,hc⟩:=h
 injection e' with e1 e2 e3
 subst e1 e3
 have hk:k<xs.length:=by
  simp only[okAt,Bool.and_eq_true]at d
  have:=atOk_true d.2
  omega
 obtain⟨b,off,rfl,hblk,hcc⟩:=hc (by omega)
 have hx:=allI_at ha hk
 have BY:=fun e=>chunk_by (xs:=xs) (k:=k) d e
 have B0:Below w.heap.size w (w.alloc (cb 0 0 0 0 false false (.slice none 0 0))):=(Below.refl _ _).alloc (Nat.le_refl _) _
 have T0:=chAt_new w 0 0 0 0 false false (.slice none 0 0)
 have s0:w.heap.size+1≤(w.alloc (cb 0 0 0 0 false false (.slice none 0 0))).heap.size:=by simp
 have RD:=headAt_yes (intsAt_below h' B0) hl k d hx
 have SB:∀(W:World),Below w.heap.size w W→_:=fun W hW=>sizeBy_any (intsAt_below h' hW) hl ha k (by omega) (uS (xs.getD k 0)) (uF (xs.getD k 0)) (uC (xs.getD k 0)) (uH (xs.getD k 0)) (uP (xs.getD k 0)) (uM (xs.getD k 0))
 have NI:=sbOf_I ha k (uS (xs.getD k 0)) (uF (xs.getD k 0))
 have RES0:Hid (chunk xs k=0→chRes (some ⟨b,off,none⟩) xs k=noChunk):=fun e=>by unfold chRes;rw[if_pos e]
 have RES1:Hid (chunk xs k≠0→chRes (some ⟨b,off,none⟩) xs k = .tuple #[cv (uS (xs.getD k 0)) (uF (xs.getD k 0)) (uC (xs.getD k 0)) (uH (xs.getD k 0)) (uP (xs.getD k 0)) (uM (xs.getD k 0)) (piece (some ⟨b,off,none⟩) k (chunk xs k).toNat),.bool true]):=fun e=>by unfold chRes;rw[if_neg e]
 have N2:=sbOf_two xs k (uS (xs.getD k 0)) (uF (xs.getD k 0))
 have CH0:(ok (xs.getD k 0) && !uM (xs.getD k 0))=false→chunk xs k=0:=fun e=>by unfold chunk;rw[if_neg (by rw[e];simp)]
 generalize chRes (some ⟨b,off,none⟩) xs k=R at *
 generalize ho:(ok (xs.getD k 0) && !uM (xs.getD k 0))=o at *
 have HCY:Hid (∀j,k+j<xs.length→w.cell? ⟨b,off+k+j,none⟩=some (.int .i64 (xs.getD (k+j) 0))):=fun j hj=>by rw[Nat.add_assoc];exact hcc _ hj
 have HYI:Hid (∀j,k+j<xs.length→I64 (xs.getD (k+j) 0)):=fun j hj=>allI_at ha hj
 clear hc hcc hnil
 generalize sbOf xs k (uS (xs.getD k 0)) (uF (xs.getD k 0))=n at *
 generalize uS (xs.getD k 0)=s at *
 generalize uF (xs.getD k 0)=f at *
 generalize uC (xs.getD k 0)=c at *
 generalize uH (xs.getD k 0)=g at *
 generalize uP (xs.getD k 0)=p at *
 generalize uM (xs.getD k 0)=m at *
 generalize hch:chunk xs k=ch at *
 have HBY:Hid _:=BY
 have HCH:Hid _:=CH0
 clear ho BY CH0 hch
 go_enter Tryz.func192,Tryz.ntmps192
 go_wp2_with fail
 generalize (w.alloc (Obj.cells #[.int .i64 0,.int .i64 0,.int .i64 0,.int .i64 0,.bool false,.bool false,.slice none 0 0] 195))=X at *
 refine RD.mono ?_
 rintro e w1 ⟨rfl,b1⟩
 have s1:=b1.size
 have T1:=chAt_alloc (chAt_below T0 b1) (hb s f c g p m)
 have B1:=(B0.trans (b1.mono (by omega))).alloc (by omega) (hb s f c g p m)
 have N1:=headAt_new w1 s f c g p m
 have S1:w1.heap.size+1≤(w1.alloc (hb s f c g p m)).heap.size:=by simp
 clear b1 RD T0 B0
 cases o
 ·obtain⟨t0,t1,t2,t3,t4,t5,t6,tf⟩:=chAt_cells T1
  have f0:=tf 0;have f1:=tf 1;have f2:=tf 2;have f3:=tf 3;have f4:=tf 4;have f5:=tf 5;have f6:=tf 6
  have T2:Hid _:=seven_set T1 0 0 0 0 false false (.slice none 0 0)
  have B2:Hid _:=seven_below B1 (Nat.le_refl _) 0 0 0 0 false false (.slice none 0 0)
  have ER:Hid _:=RES0.out (HCH.out rfl)
  clear B1 tf T1 HCH HBY RES0 RES1
  go_wp2
  refine bodyPost_ret (v:=noChunk) (res_chunk_one rfl rfl rfl T2) rfl ⟨?_,B2⟩
  rw[ER.out]
 ·have HBY2:Hid _:=HBY.out rfl
  clear HBY
  obtain⟨n0,n1,n2,n3,n4,n5,nf⟩:=headAt_cells N1
  go_wp2_with fail
  generalize hY:w1.alloc (Obj.cells #[.int .i64 s,.int .i64 f,.int .i64 c,.int .i64 g,.bool p,.bool m] 101)=Y at *
  clear hY n0 n1 n2 n3 n4 n5 nf
  refine (SB _ B1).mono ?_
  clear SB
  rintro e w2 ⟨rfl,b2⟩
  have s2:=b2.size
  have T2:=chAt_below (show ChAt Y w.heap.size 0 0 0 0 false false (.slice none 0 0) from T1) b2
  have N2':=headAt_below (show HeadAt Y w1.heap.size s f c g p m from N1) b2
  have B2:=B1.trans (b2.mono (by omega))
  clear b2 B1 T1 N1
  go_wp2_with fail
  cases dc:cutOk xs.length k n
  ·have E0:ch=0:=by rw[HBY2.out,dc];simp
   have ER:Hid _:=RES0.out E0
   clear HBY2 HCH RES0 RES1 E0
   refine (cut_no hlc hcm k n ⟨by omega,by omega⟩ NI dc).mono ?_
   rintro e w3 ⟨rfl,hw3⟩
   rw[hw3]
   clear hw3 w3
   obtain⟨t0,t1,t2,t3,t4,t5,t6,tf⟩:=chAt_cells T2
   have f0:=tf 0;have f1:=tf 1;have f2:=tf 2;have f3:=tf 3;have f4:=tf 4;have f5:=tf 5;have f6:=tf 6
   have T3:Hid _:=seven_set T2 0 0 0 0 false false (.slice none 0 0)
   have B3:Hid _:=seven_below B2 (Nat.le_refl _) 0 0 0 0 false false (.slice none 0 0)
   clear B2 tf T2
   go_wp2
   refine bodyPost_ret (v:=noChunk) (res_chunk_one rfl rfl rfl T3) rfl ⟨?_,B3⟩
   rw[ER.out]
  ·obtain⟨c1,c2,c3⟩:=cutOk_true dc
   obtain⟨N,rfl⟩:=Int.eq_ofNat_of_zero_le c2
   refine (cut_yes hlc hcm k N (by omega)).mono ?_
   rintro e w3 ⟨rfl,hw3⟩
   rw[hw3]
   clear hw3 w3
   by_cases hN:N=0
   ·subst hN
    have E0:ch=0:=by rw[HBY2.out];simp
    have ER:Hid _:=RES0.out E0
    clear HBY2 HCH RES0 RES1 E0
    rw[piece_none]
    obtain⟨t0,t1,t2,t3,t4,t5,t6,tf⟩:=chAt_cells T2
    have f0:=tf 0;have f1:=tf 1;have f2:=tf 2;have f3:=tf 3;have f4:=tf 4;have f5:=tf 5;have f6:=tf 6
    have T3:Hid _:=seven_set T2 0 0 0 0 false false (.slice none 0 0)
    have B3:Hid _:=seven_below B2 (Nat.le_refl _) 0 0 0 0 false false (.slice none 0 0)
    clear B2 tf T2
    go_wp2
    refine bodyPost_ret (v:=noChunk) (res_chunk_one rfl rfl rfl T3) rfl ⟨?_,B3⟩
    rw[ER.out]
   ·have hN2:2≤N:=by omega
    rw[piece_at b off k N (by omega)]
    obtain⟨n0,n1,n2,n3,n4,n5,nf⟩:=headAt_cells N2'
    clear nf
    have hU:∀W:World,Below w.heap.size w W→W.cell? ⟨b,off+k+1,none⟩=some (.int .i64 (xs.getD (k+1) 0)):=fun W hW=>(hW.cell (p:=⟨b,off+k+1,none⟩) hblk).trans (HCY.out 1 (by omega))
    have hyI:=HYI.out 1 (by omega)
    have RES2:Hid (ch=(N:Int)→R = .tuple #[cv s f c g p m (.slice (some ⟨b,off+k,none⟩) N N),.bool true]):=fun e=>by
     rw[RES1.out (by omega),e,Int.toNat_natCast,piece_at b off k N (by omega)]
    generalize xs.getD (k+1) 0=y at *
    have HU:Hid _:=hU
    clear hU RES1 HCY HYI
    go_wp2_with fail
    refine (isNote_any s f c g p m _ _).mono ?_
    rintro e w4 ⟨rfl,hw4⟩
    have T4:=chAt_alloc (chAt_alloc T2 (cb s f c g p m (.slice (some ⟨b,off+k,none⟩) N N))) (cb s f c g p m (.slice (some ⟨b,off+k,none⟩) N N))
    have M4:=chAt_alloc (chAt_new w2 s f c g p m (.slice (some ⟨b,off+k,none⟩) N N)) (cb s f c g p m (.slice (some ⟨b,off+k,none⟩) N N))
    have B4:=(B2.alloc (by omega) (cb s f c g p m (.slice (some ⟨b,off+k,none⟩) N N))).alloc (by simp;omega) (cb s f c g p m (.slice (some ⟨b,off+k,none⟩) N N))
    rw[←hw4]at T4 M4 B4
    clear hw4 T2 N2' B2 n0 n1 n2 n3 n4 n5
    have cy:=HU.out _ B4
    clear HU
    obtain⟨t0,t1,t2,t3,t4,t5,t6,tf⟩:=chAt_cells T4
    have f0:=tf 0;have f1:=tf 1;have f2:=tf 2;have f3:=tf 3;have f4:=tf 4;have f5:=tf 5;have f6:=tf 6
    obtain⟨m0,m1,m2,m3,m4,m5,m6,mf⟩:=chAt_cells M4
    have T5:Hid _:=seven_set T4 0 0 0 0 false false (.slice none 0 0)
    have B5:Hid _:=seven_below B4 (Nat.le_refl _) 0 0 0 0 false false (.slice none 0 0)
    have T6:Hid _:=seven_set T4 s f c g p m (.slice (some ⟨b,off+k,none⟩) N N)
    have B6:Hid _:=seven_below B4 (Nat.le_refl _) s f c g p m (.slice (some ⟨b,off+k,none⟩) N N)
    clear tf mf T4 M4 B4
    by_cases h7:f=7
    ·subst h7
     cases dA:isA y
     ·have ER:Hid _:=RES0.out (show ch=0 by rw[HBY2.out,if_neg];rintro⟨_,_,h3⟩;exact absurd (h3 rfl) (by simp[dA]))
      clear RES0 RES2 HBY2 HCH T6 B6
      go_wp2_with (go_at_call 198;refine (isAddr_any _ _ hyI.1 hyI.2).mono ?_;rintro e w5 ⟨rfl,rfl⟩)
      refine bodyPost_ret (v:=noChunk) (res_chunk_one rfl rfl rfl T5) rfl ⟨?_,B5⟩
      rw[ER.out]
     ·have ER:Hid _:=RES2.out (show ch=(N:Int) by rw[HBY2.out,if_pos];exact⟨dc,by omega,fun _=>dA⟩)
      clear RES0 RES2 HBY2 HCH T5 B5
      go_wp2_with (go_at_call 198;refine (isAddr_any _ _ hyI.1 hyI.2).mono ?_;rintro e w5 ⟨rfl,rfl⟩)
      refine bodyPost_ret (v:=.tuple #[cv s 7 c g p m (.slice (some ⟨b,off+k,none⟩) N N),.bool true]) (res_chunk_one rfl rfl rfl T6) rfl ⟨?_,B6⟩
      rw[ER.out]
    ·have h7':(f==7)=false:=by simp[h7]
     have ER:Hid _:=RES2.out (show ch=(N:Int) by rw[HBY2.out,if_pos];exact⟨dc,by omega,fun h=>absurd h h7⟩)
     clear RES0 RES2 HBY2 HCH T5 B5
     go_wp2
     refine bodyPost_ret (v:=.tuple #[cv s f c g p m (.slice (some ⟨b,off+k,none⟩) N N),.bool true]) (res_chunk_one rfl rfl rfl T6) rfl ⟨?_,B6⟩
     rw[ER.out]
theorem chunk_nat (xs:List Int) (k:Nat):((chunk xs k).toNat:Int)=chunk xs k:=Int.toNat_of_nonneg (chunk_le xs k).1
end Go.Proofs.YtkiognecebgaiaaGreatDoor.walks
namespace Go.Proofs.YtkiognecebgaiaaGreatDoor.walks
open Go.RowKit rows heads words
abbrev Pl:=Fin 1001
def pls (ys:List Int):Nat→Nat→List Pl
 |0,_=>[]
 |n+1,k=>if h:k≤1000 then (if chunk ys k=0 then [] else ⟨k,by omega⟩ :: pls ys n (k+(chunk ys k).toNat)) else []
theorem pls_end {ys:List Int} {k:Nat} (n:Nat) (h:chunk ys k=0):pls ys n k=[]:=by
 cases n with
 |zero=>rfl
 |succ n=>
  unfold pls
  by_cases hk:k≤1000
  ·rw[dif_pos hk,if_pos h]
  ·rw[dif_neg hk]
theorem pls_step {ys:List Int} {k:Nat} (n:Nat) (hk:k<1001) (h:chunk ys k≠0):pls ys (n+1) k=⟨k,hk⟩ :: pls ys n (k+(chunk ys k).toNat):=by
 conv=>lhs;unfold pls
 rw[dif_pos (by omega),if_neg h]
theorem pls_more (ys:List Int) (hl:ys.length≤1000):∀(n m k:Nat),ys.length-k≤n→ys.length-k≤m→pls ys n k=pls ys m k:=by
 intro n
 induction n with
 |zero=>
  intro m k h _
  have:=chunk_bounds ys k
  rw[pls_end _ (by omega),pls_end _ (by omega)]
 |succ n ih=>
  intro m k h h'
  have:=chunk_bounds ys k
  by_cases h0:chunk ys k=0
  ·rw[pls_end _ h0,pls_end _ h0]
  ·obtain⟨m',rfl⟩:∃m',m=m'+1:=⟨m-1,by omega⟩
   rw[pls_step n (by omega) h0,pls_step m' (by omega) h0,ih m' _ (by omega) (by omega)]
def plO (ys:List Int) (k:Nat):List Pl:=pls ys (ys.length-k) k
theorem plO_end {ys:List Int} {k:Nat} (h:chunk ys k=0):plO ys k=[]:=pls_end _ h
theorem plO_step {ys:List Int} {k:Nat} (hl:ys.length≤1000) (hk:k<1001) (h:chunk ys k≠0):plO ys k=⟨k,hk⟩ :: plO ys (k+(chunk ys k).toNat):=by
 have:=chunk_bounds ys k
 unfold plO
 obtain⟨m,hm⟩:∃m,ys.length-k=m+1:=⟨ys.length-k-1,by omega⟩
 rw[hm,pls_step m hk h,pls_more ys hl m (ys.length-(k+(chunk ys k).toNat)) _ (by omega) (by omega)]
theorem pls_length (ys:List Int):∀(n k:Nat),(pls ys n k).length≤n:=by
 intro n
 induction n with
 |zero=>intro k;simp[pls]
 |succ n ih=>
  intro k
  unfold pls
  split
  ·split
   ·simp
   ·have:=ih (k+(chunk ys k).toNat);simp;omega
  ·simp
theorem plO_length (ys:List Int) (k:Nat):(plO ys k).length≤ys.length:=Nat.le_trans (pls_length ys _ _) (by omega)
def enf (ys:List Int) (e:Int) (l:List Pl):Int:=l.foldl (fun _ x=>(x.val:Int)+chunk ys x.val) e
theorem enf_snoc (ys:List Int) (e:Int) (l:List Pl) (x:Pl):enf ys e (l++[x])=(x.val:Int)+chunk ys x.val:=by simp[enf]
theorem enf_cons (ys:List Int) (e:Int) (x:Pl) (l:List Pl):enf ys e (x :: l)=enf ys ((x.val:Int)+chunk ys x.val) l:=rfl
theorem chunk_take {xs:List Int} {k t:Nat} (hk:k<t) (ht:t≤xs.length):chunk (xs.take t) k=if chunk xs k=0∨(k:Int)+chunk xs k > t then 0 else chunk xs k:=by
 have e0:(xs.take t).getD k 0=xs.getD k 0:=by simp[List.getD_eq_getElem?_getD,hk]
 have e1:k+1<t→(xs.take t).getD (k+1) 0=xs.getD (k+1) 0:=fun h=>by simp[List.getD_eq_getElem?_getD,h]
 have el:(xs.take t).length=t:=by simp;omega
 have bs:=uS_bounds (xs.getD k 0)
 have zs:=sz_bounds bs.1 bs.2
 unfold chunk
 rw[e0,el]
 by_cases ho:(ok (xs.getD k 0) && !uM (xs.getD k 0))=true
 ·simp only[if_pos ho]
  by_cases h6:uF (xs.getD k 0)=6
  ·simp only[if_pos h6]
   by_cases hk1:k+1<t
   ·rw[e1 hk1]
    have hk2:k+1<xs.length:=by omega
    generalize xs.getD (k+1) 0=y
    by_cases hf:freeOk t k y=true
    ·have hf':=hf
     simp only[freeOk,decide_eq_true_eq]at hf'
     have hg:freeOk xs.length k y=true:=by simp only[freeOk,decide_eq_true_eq];omega
     have L:(if k+1<t∧freeOk t k y=true then y else 0)=y:=if_pos ⟨hk1,hf⟩
     have R:(if k+1<xs.length∧freeOk xs.length k y=true then y else 0)=y:=if_pos ⟨hk2,hg⟩
     rw[L,R,if_neg]
     omega
    ·have L:(if k+1<t∧freeOk t k y=true then y else 0)=0:=if_neg (fun h=>hf h.2)
     simp only[freeOk,decide_eq_true_eq]at hf
     by_cases hg:freeOk xs.length k y=true
     ·have hg':=hg
      simp only[freeOk,decide_eq_true_eq]at hg'
      have R:(if k+1<xs.length∧freeOk xs.length k y=true then y else 0)=y:=if_pos ⟨hk2,hg⟩
      rw[L,R,if_pos]
      omega
     ·have R:(if k+1<xs.length∧freeOk xs.length k y=true then y else 0)=0:=if_neg (fun h=>hg h.2)
      rw[L,R,if_pos (.inl rfl)]
   ·generalize (xs.take t).getD (k+1) 0=y'
    generalize xs.getD (k+1) 0=y
    have L:(if k+1<t∧freeOk t k y'=true then y' else 0)=0:=if_neg (fun h=>hk1 h.1)
    rw[L]
    by_cases hg:k+1<xs.length∧freeOk xs.length k y=true
    ·have hg':=hg.2
     simp only[freeOk,decide_eq_true_eq]at hg'
     have R:(if k+1<xs.length∧freeOk xs.length k y=true then y else 0)=y:=if_pos hg
     rw[R,if_pos]
     omega
    ·have R:(if k+1<xs.length∧freeOk xs.length k y=true then y else 0)=0:=if_neg hg
     rw[R,if_pos (.inl rfl)]
  ·simp only[if_neg h6]
   by_cases hc:(k:Int)+sz (uS (xs.getD k 0))≤t
   ·rw[e1 (by omega)]
    generalize sz (uS (xs.getD k 0))=z at *
    by_cases h7:uF (xs.getD k 0)=7→isA (xs.getD (k+1) 0)=true
    ·have L:(if (k:Int)+z≤t∧(uF (xs.getD k 0)=7→isA (xs.getD (k+1) 0)=true) then z else 0)=z:=if_pos ⟨hc,h7⟩
     have R:(if (k:Int)+z≤xs.length∧(uF (xs.getD k 0)=7→isA (xs.getD (k+1) 0)=true) then z else 0)=z:=if_pos ⟨by omega,h7⟩
     rw[L,R,if_neg]
     omega
    ·have L:(if (k:Int)+z≤t∧(uF (xs.getD k 0)=7→isA (xs.getD (k+1) 0)=true) then z else 0)=0:=if_neg (fun h=>h7 h.2)
     have R:(if (k:Int)+z≤xs.length∧(uF (xs.getD k 0)=7→isA (xs.getD (k+1) 0)=true) then z else 0)=0:=if_neg (fun h=>h7 h.2)
     rw[L,R,if_pos (.inl rfl)]
   ·generalize sz (uS (xs.getD k 0))=z at *
    generalize (xs.take t).getD (k+1) 0=y'
    have L:(if (k:Int)+z≤t∧(uF (xs.getD k 0)=7→isA y'=true) then z else 0)=0:=if_neg (fun h=>hc h.1)
    rw[L]
    by_cases hg:(k:Int)+z≤xs.length∧(uF (xs.getD k 0)=7→isA (xs.getD (k+1) 0)=true)
    ·have R:(if (k:Int)+z≤xs.length∧(uF (xs.getD k 0)=7→isA (xs.getD (k+1) 0)=true) then z else 0)=z:=if_pos hg
     rw[R,if_pos]
     omega
    ·have R:(if (k:Int)+z≤xs.length∧(uF (xs.getD k 0)=7→isA (xs.getD (k+1) 0)=true) then z else 0)=0:=if_neg hg
     rw[R,if_pos (.inl rfl)]
 ·simp only[if_neg ho];simp
theorem walk_by {xs:List Int} {t:Nat} (ht:t≤xs.length) (hm:t≤1000):∀(n k:Nat),t-k≤n→k≤t →
    walkO xs k t=if enf (xs.take t) k (plO (xs.take t) k)=t then some ((plO (xs.take t) k).map (fun p=>(p.val:Int))) else none:=by
 have el:(xs.take t).length=t:=by simp;omega
 intro n
 induction n with
 |zero=>
  intro k h1 h2
  have ek:k=t:=by omega
  subst ek
  have:=chunk_bounds (xs.take k) k
  rw[walkO_end (by omega),plO_end (by omega)]
  simp[enf]
 |succ n ih=>
  intro k h1 h2
  by_cases hk:k<t
  ·have ct:=chunk_take hk ht
   by_cases hb:chunk xs k=0∨(k:Int)+chunk xs k > t
   ·rw[if_pos hb]at ct
    rw[walkO_bad hk hb,plO_end ct,if_neg]
    simp[enf];omega
   ·rw[if_neg hb]at ct
    have:=chunk_bounds xs k
    rw[walkO_step hk hb,plO_step (by omega) (show k<1001 by omega) (by omega),enf_cons,ct,ih _ (by omega) (by omega)]
    have e:((k:Int)+chunk xs k)=((k+(chunk xs k).toNat:Nat):Int):=by omega
    rw[e]
    split<;>simp
  ·have ek:k=t:=by omega
   subst ek
   have:=chunk_bounds (xs.take k) k
   rw[walkO_end hk,plO_end (by omega)]
   simp[enf]
end Go.Proofs.YtkiognecebgaiaaGreatDoor.walks
namespace Go.Proofs.YtkiognecebgaiaaGreatDoor.walks
open Go.RowKit Go.Shelf rows heads words
attribute [local go_sem] Oper.semAt_some
abbrev encs (a:Option Addr) (ys:List Int) (x:Pl):Array Value:=
 #[.int .i64 (x.val:Int),cv (uS (ys.getD x.val 0)) (uF (ys.getD x.val 0)) (uC (ys.getD x.val 0)) (uH (ys.getD x.val 0)) (uP (ys.getD x.val 0)) (uM (ys.getD x.val 0)) (piece a x.val (chunk ys x.val).toNat)]
def Kc (n₀ Br:Nat) (W W':World):Prop:=Below n₀ W W'∧W'.heap[Br]? = W.heap[Br]? ∧ ∀(b:Nat) (cs:Array Value),W.heap[b]? = some (Obj.cells cs 195 (0,0))→W'.heap[b]? = some (Obj.cells cs 195 (0,0))
theorem kc_t {n₀ Br:Nat} {A B C:World} (h:Kc n₀ Br A B) (k:Kc n₀ Br B C):Kc n₀ Br A C:=⟨h.1.trans k.1,k.2.1.trans h.2.1,fun b cs e=>k.2.2 b cs (h.2.2 b cs e)⟩
theorem kc_b {n₀ Br:Nat} {w:World} (hn:n₀≤w.heap.size) (hB:Br<w.heap.size) (W:World) (l:Nat) (o o':Obj) (hl:w.heap.size≤l) (h:W.heap[l]? = some o) (hc:o.isCells=false) (hw:o.isWalk=false):Kc n₀ Br W (W.putObj l o'):=
 ⟨belowK_b hn W l o o' hl h hc hw,World.putObj_heap_other (by omega),fun b cs e=>by
  have hne:b≠l:=fun e'=>by subst e';rw[h]at e;cases e;cases hc
  exact (World.putObj_heap_other hne).trans e⟩
theorem grown_of_below {W W':World} (h:Below W.heap.size W W'):W.grownBy W' none:=⟨h.os,h.tape,h.output,h.size,fun i hi _=>h.block i hi⟩
set_option maxRecDepth 100000 in
set_option maxHeartbeats 4000000 in
theorem chunks1_in (n:Nat) (hn:2≤n) (l Br Bf n₀ f:Nat) (a:Option Addr) (cap:Nat) (ys:List Int) (hl:ys.length≤1000) (ha:AllI ys) (hf:f≤1000) (J Jx:List Pl→World→Prop)
    (hY:∀pre x W,J pre W→pre.length<(plO ys f).length→YieldAt Fence.wide (n-1) Tryz.prog l (encs a ys x) W fun e W'=>
     (e = .returned (.bool true)∧J (pre++[x]) W'∧Kc n₀ Br W W')∨(e = .returned (.bool false)∧Jx (pre++[x]) W'))
    (W0:World) (hJ:AbidesFrom W0.heap.size J) (hBr:Boxed W0 Br 48 (.slice a ys.length cap)) (hBf:W0.cell? ⟨Bf,0,none⟩=some (.int .i64 f)) (hI:∀W,Below n₀ W0 W→IntsAt W (.slice a ys.length cap) ys) (h0:J [] W0) (hn₀:n₀≤W0.heap.size) :
    CallsIn Fence.wide n Tryz.prog 215 #[.func (.yield l) #[] #[],.pointer (some ⟨Bf,0,none⟩),.pointer (some ⟨Br,0,none⟩)] W0 fun e W'=>(∃v,e = .returned v) ∧
     ((∃zs,zs=plO ys f∧J zs W')∨(∃pre,pre <+: plO ys f∧Jx pre W')):=by
 refine callsIn_of_wp Tryz.func215 rfl trivial ?_ rfl
 simp only[Tryz.ntmps215,List.size_toArray,List.length_cons,List.length_nil,Nat.reduceAdd,Nat.reduceSub,Array.replicate_succ,Array.replicate_zero,List.push_toArray,List.append_toArray,List.nil_append,List.cons_append]
 gi_wp2
 gi_loopw [4] (fun p wr=>∃(pre:List Pl) (k:Nat),p = .int .i64 (k:Int)∧k≤1000∧plO ys f=pre++plO ys k∧J pre wr∧Below n₀ W0 wr∧Boxed wr Br 48 (.slice a ys.length cap))
  (fun p _=>1001-(intOf p).toNat)
 case atStart=>
  exact⟨[],f,rfl,hf,rfl,h0,Below.refl _ _,hBr⟩
 case round=>
  obtain⟨pre,k,rfl,hk,hL,hJs,hB,bR⟩:=hrel
  have cR:=bR.cell
  have h1:1≤n:=by omega
  cases d:okAt ys k
  ·have e0:chunk ys k=0:=by
     have:=chunk_bounds ys k
     simp[okAt,rowOk,atOk]at d
     omega
   have C:=callsIn_wide (n:=n-1).2 (chunkOf_out (hI wr hB) (by omega) k ⟨by omega,by omega⟩ d)
   clear hY hI
   gi_wp2_with fail
   refine⟨trivial,C.mono ?_⟩
   rintro e w1 ⟨rfl,b1⟩
   have hJ1:=hJ pre wr _ none hJs (grown_of_below (b1.alloc b1.size (cb 0 0 0 0 false false (.slice none 0 0)))) (fun _ e=>by cases e)
   have HE:Hid _:=hJ1
   clear b1 C hJ1 hJ hJs
   gi_wp2
   refine⟨fun _ h=>(by cases h),?_⟩
   gi_wp2
   refine bodyPost_ret (results_none rfl _ _ _) rfl ?_
   exact⟨⟨_,rfl⟩,.inl ⟨pre,by rw[hL,plO_end e0,List.append_nil],HE⟩⟩
  ·have C:=callsIn_wide (n:=n-1).2 (chunkOf_in (hI wr hB) (by omega) ha k d)
   unfold chRes at C
   by_cases e0:chunk ys k=0
   ·rw[if_pos e0]at C
    clear hY hI
    gi_wp2_with fail
    refine⟨trivial,C.mono ?_⟩
    rintro e w1 ⟨rfl,b1⟩
    have hJ1:=hJ pre wr _ none hJs (grown_of_below (b1.alloc b1.size (cb 0 0 0 0 false false (.slice none 0 0)))) (fun _ e=>by cases e)
    have HE:Hid _:=hJ1
    clear b1 C hJ1 hJ hJs
    gi_wp2
    refine⟨fun _ h=>(by cases h),?_⟩
    gi_wp2
    refine bodyPost_ret (results_none rfl _ _ _) rfl ?_
    exact⟨⟨_,rfl⟩,.inl ⟨pre,by rw[hL,plO_end e0,List.append_nil],HE⟩⟩
   ·rw[if_neg e0]at C
    have hpl:=plO_step hl (show k<1001 by omega) e0
    have hlt:pre.length<(plO ys f).length:=by rw[hL,hpl];simp
    have hY1:=fun W hW=>hY pre ⟨k,by omega⟩ W hW hlt
    have cn:=chunk_nat ys k
    have cb2:=chunk_bounds ys k
    have hL2:plO ys f=(pre++[⟨k,by omega⟩])++plO ys (k+(chunk ys k).toNat):=by rw[hL,hpl];simp
    simp only[encs]at hY1
    rw[hpl]at hL
    unfold piece at hY1 C
    generalize hN:(chunk ys k).toNat=N at *
    have hNk:k+N≤1000:=by omega
    have hN2:2≤N:=by omega
    clear hY cn cb2 e0 hN
    generalize uS (ys.getD k 0)=s at *
    generalize uF (ys.getD k 0)=ff at *
    generalize uC (ys.getD k 0)=c at *
    generalize uH (ys.getD k 0)=g at *
    generalize uP (ys.getD k 0)=p at *
    generalize uM (ys.getD k 0)=m at *
    generalize (if N=0 then a else Option.map (fun x=>x.add k) a)=ad at *
    gi_wp2_with fail
    refine⟨trivial,C.mono ?_⟩
    rintro e w1 ⟨rfl,b1⟩
    have hJ1:=hJ pre wr _ none hJs (grown_of_below (b1.alloc b1.size (cb s ff c g p m (.slice ad N N)))) (fun _ e=>by cases e)
    have HB1:=(hB.trans (b1.mono (Nat.le_trans hn₀ hB.size))).alloc (Nat.le_trans (Nat.le_trans hn₀ hB.size) b1.size) (cb s ff c g p m (.slice ad N N))
    have bR1:Boxed (w1.alloc (cb s ff c g p m (.slice ad N N))) Br 48 (.slice a ys.length cap):=bR.kept (grown_of_below (b1.alloc b1.size (cb s ff c g p m (.slice ad N N)))) (by simp)
    have M1:=chAt_new w1 s ff c g p m (.slice ad N N)
    obtain⟨fn,tmps,assign,body,hy,hR⟩:=hY1 _ hJ1
    have HB:Hid _:=HB1
    have HBX:Hid _:=bR1
    have HM:Hid _:=M1
    have HJ:Hid _:=hJ
    clear b1 C hJs hB bR cR hY1 hJ1 HB1 bR1 M1 hJ
    gi_wp2
    refine hR.mono ?_
    rintro e W3 (⟨rfl,hJ3,hk3⟩|⟨rfl,hJx3⟩)
    ·have M3:ChAt W3 w1.heap.size s ff c g p m (.slice ad N N):=hk3.2.2 _ _ HM.out
     have HB3:Hid _:=HB.out.trans hk3.1
     have HR3:Hid (Boxed W3 Br 48 (.slice a ys.length cap)):=hk3.2.1.trans HBX.out
     have HJ4:Hid _:=HJ.out _ W3 _ none hJ3 (grown_of_below ((Below.refl _ W3).alloc (Nat.le_refl _) (cb s ff c g p m (.slice ad N N)))) (fun _ e=>by cases e)
     have HB4:Hid _:=HB3.out.alloc (Nat.le_trans hn₀ HB3.out.size) (cb s ff c g p m (.slice ad N N))
     have HR4:Hid _:=HR3.out.alloc (cb s ff c g p m (.slice ad N N))
     obtain⟨m0,m1,m2,m3,m4,m5,m6,mf⟩:=chAt_cells M3
     clear HB HBX HM hR hy M3 hk3 hJ3 mf HJ HB3 HR3
     gi_wp2_with fail
     refine⟨trivial,(callsIn_wide.2 (size_any s ff c g p m ad N N W3)).mono ?_⟩
     rintro e W4 ⟨rfl,rfl⟩
     gi_wp2
     go_roundw
     case rel=>exact⟨_,k+N,by go_num,hNk,hL2,HJ4,HB4,HR4⟩
     case measure=>simp[intOf];omega
    ·gi_wp2
     refine bodyPost_ret (results_none rfl _ _ _) rfl ?_
     exact⟨⟨_,rfl⟩,.inr ⟨_,⟨plO ys (k+N),hL2.symm⟩,hJx3⟩⟩
theorem chunks_any (a:Option Addr) (len cap:Nat) (f:Int) (w:World) :
    Calls Tryz.prog 206 #[.slice a len cap,.int .i64 f] w fun e w'=>e = .returned (.func (.func 215) #[] #[.pointer (some ⟨w.heap.size+1,0,none⟩),.pointer (some ⟨w.heap.size,0,none⟩)])∧w'=(w.alloc (.cells #[.slice a len cap] 48)).alloc (.cells #[.int .i64 f] 2):=by
 go_enter Tryz.func206,Tryz.ntmps206
 go_wp2
 go_ret
 exact⟨rfl,rfl⟩
theorem chunks_stops (n:Nat) (hn:2≤n) (Br Bf n₀ f:Nat) (a:Option Addr) (cap:Nat) (ys:List Int) (hl:ys.length≤1000) (ha:AllI ys) (hf:f≤1000) (w:World) (h1:Br<w.heap.size) (h2:Bf<w.heap.size) (hn₀:n₀≤w.heap.size)
    (hBr:Boxed w Br 48 (.slice a ys.length cap)) (hBf:w.cell? ⟨Bf,0,none⟩=some (.int .i64 f)) (hI:∀W,Below n₀ w W→IntsAt W (.slice a ys.length cap) ys) :
    SeqStopsK Fence.wide n Tryz.prog 215 #[.pointer (some ⟨Bf,0,none⟩),.pointer (some ⟨Br,0,none⟩)] (encs a ys) (Kc n₀ Br) (fun zs=>zs=plO ys f) (fun pre=>pre <+: plO ys f) (plO ys f).length w:=fun l J Jx W hW hJ _ hY h0=>
 chunks1_in n hn l Br Bf n₀ f a cap ys hl ha hf J Jx hY W hJ ((hW.block Br h1).trans hBr) ((hW.cell (p:=⟨Bf,0,none⟩) h2).trans hBf) (fun W' hW'=>hI W' ((hW.mono hn₀).trans hW')) h0 (Nat.le_trans hn₀ hW.size)
theorem walk_no {w:World} {v:Value} {xs:List Int} {f t:Int} (h:IntsAt w v xs) (ht:I64 t) (d:rangeOk xs f t=false) :
    Calls Tryz.prog 191 #[v,.int .i64 f,.int .i64 t] w fun e w'=>∃v',e = .returned (.tuple #[v',.bool false])∧rows.Own w' w.heap.size v' []∧Below w.heap.size w w':=by
 have h':=h
 obtain⟨a,cap,rfl,hlc,hcm,_,hc⟩:=h
 clear hc
 cases dc:cutOk xs.length 0 t
 ·cases dr:rowOk xs
  all_goals
   go_enter Tryz.func191,Tryz.ntmps191
   go_wp2_with fail
   refine (cut_no hlc hcm 0 t ⟨by decide,by decide⟩ ht dc).mono ?_
   rintro e w1 ⟨rfl,hw1⟩
   rw[hw1]
   clear hw1 w1
   go_wp2_with (go_at_call 205;refine (isRow_any h').mono ?_;rintro e w2 ⟨rfl,hw2⟩;rw[hw2];clear hw2 w2)
   go_ret2
   exact⟨_,rfl,own_nil _ _,Below.refl _ _⟩
 ·obtain⟨_,t0,t1⟩:=cutOk_true dc
  obtain⟨T,rfl⟩:=Int.eq_ofNat_of_zero_le t0
  have hp:∃ad,piece a 0 T = .slice ad T T:=⟨_,rfl⟩
  obtain⟨ad,hp⟩:=hp
  cases dr:rowOk xs
  ·go_enter Tryz.func191,Tryz.ntmps191
   go_wp2_with fail
   refine (cut_yes hlc hcm 0 T (by omega)).mono ?_
   rintro e w1 ⟨rfl,hw1⟩
   rw[hw1,hp]
   clear hw1 w1 hp
   go_wp2_with (go_at_call 205;refine (isRow_any h').mono ?_;rintro e w2 ⟨rfl,hw2⟩;rw[hw2];clear hw2 w2)
   go_ret2
   exact⟨_,rfl,own_nil _ _,Below.refl _ _⟩
  ·by_cases h1:f<0
   ·go_enter Tryz.func191,Tryz.ntmps191
    go_wp2_with fail
    refine (cut_yes hlc hcm 0 T (by omega)).mono ?_
    rintro e w1 ⟨rfl,hw1⟩
    rw[hw1,hp]
    clear hw1 w1 hp
    go_wp2_with (go_at_call 205;refine (isRow_any h').mono ?_;rintro e w2 ⟨rfl,hw2⟩;rw[hw2];clear hw2 w2)
    go_ret2
    exact⟨_,rfl,own_nil _ _,Below.refl _ _⟩
   ·have h2:f > (T:Int):=by
      simp only[rangeOk,dr,Bool.true_and,decide_eq_false_iff_not]at d
      omega
    go_enter Tryz.func191,Tryz.ntmps191
    go_wp2_with fail
    refine (cut_yes hlc hcm 0 T (by omega)).mono ?_
    rintro e w1 ⟨rfl,hw1⟩
    rw[hw1,hp]
    clear hw1 w1 hp
    go_wp2_with (go_at_call 205;refine (isRow_any h').mono ?_;rintro e w2 ⟨rfl,hw2⟩;rw[hw2];clear hw2 w2)
    go_ret2
    exact⟨_,rfl,own_nil _ _,Below.refl _ _⟩
theorem piece_ints {w:World} {a:Option Addr} {cap:Nat} {xs:List Int} (h:IntsAt w (.slice a xs.length cap) xs) (hl:xs.length≤1048576) (T:Nat) (hT:T≤xs.length) :
    ∃ad,piece a 0 T = .slice ad T T∧IntsAt w (.slice ad (xs.take T).length T) (xs.take T):=by
 obtain⟨a',cap',e,hlc,hcm,hnil,hc⟩:=h
 injection e with e1 e2 e3
 subst e1 e3
 have el:(xs.take T).length=T:=by simp;omega
 rw[el]
 by_cases h0:T=0
 ·subst h0
  exact⟨a,piece_none _ _,a,0,by simp,by simp,by decide,fun _=>rfl,fun h=>by simp at h⟩
 ·obtain⟨b,off,rfl,hb,hcc⟩:=hc (by omega)
  refine⟨_,piece_at b off 0 T (by omega),_,T,by rw[el],by omega,by unfold maxLen;omega,fun h=>by simp at h,fun _=>⟨b,off+0,rfl,hb,fun k hk => ?_⟩⟩
  rw[el]at hk
  have:=hcc k (by omega)
  rw[Nat.add_zero,this]
  simp[List.getD_eq_getElem?_getD,hk]
theorem chunk_not_row {W:World} {b:Nat} {cs:Array Value} (h:W.heap[b]? = some (Obj.cells cs 195 (0,0))) {base k:Nat} {v:Value} {xs:List Value} (hr:W.ownsRow base 2 1 v k xs):some b≠v.ownBlock:=by
 rcases hr.2 with ⟨rfl,_⟩|⟨g,cap,cur,rfl,_,hgb,_⟩
 ·simp[Value.ownBlock]
 ·intro e'
  obtain rfl:b=g:=by simpa [Value.ownBlock] using e'
  have:=h.symm.trans hgb
  simp at this
theorem app_step {W w1:World} {n₀ P E Br Bx k m:Nat} {v v' e r u:Value} {xs ys:List Value} {tmp:Obj} {s f c h:Int} {p q:Bool}
    (bP:Boxed W P 48 v) (hrow:W.ownsRow n₀ 2 1 v k xs) (hvE:v.ownBlock≠some E) (bE:Boxed W E 2 e) (bR:Boxed W Br 48 r) (M:ChAt W Bx s f c h p q u)
    (hn₀:n₀≤W.heap.size) (hP:n₀≤P) (hPE:E≠P) (hPR:Br≠P)
    (hown':w1.ownsRow n₀ 2 1 v' m ys) (hgrow:(W.alloc tmp).grownBy w1 v.ownBlock) (hat:v'.ownBlock=v.ownBlock∨v'.ownBlock=some (W.alloc tmp).heap.size) :
    Boxed w1 P 48 v∧Boxed (w1.setCell ⟨P,0,none⟩ v') P 48 v'∧(w1.setCell ⟨P,0,none⟩ v').ownsRow n₀ 2 1 v' m ys∧KeepsOthers W (w1.setCell ⟨P,0,none⟩ v')∧Below n₀ W (w1.setCell ⟨P,0,none⟩ v') ∧
     Boxed (w1.setCell ⟨P,0,none⟩ v') E 2 e∧Boxed (w1.setCell ⟨P,0,none⟩ v') Br 48 r∧ChAt (w1.setCell ⟨P,0,none⟩ v') Bx s f c h p q u∧v'.ownBlock≠some E ∧
     ∀(b:Nat) (cs:Array Value),W.heap[b]? = some (Obj.cells cs 195 (0,0))→(w1.setCell ⟨P,0,none⟩ v').heap[b]? = some (Obj.cells cs 195 (0,0)):=by
 obtain⟨a1,a2,a3,a4,a5⟩:=bP.appended (by decide) hrow hn₀ hP hown' hgrow
 have CK:∀(b:Nat) (cs:Array Value),W.heap[b]? = some (Obj.cells cs 195 (0,0))→(w1.setCell ⟨P,0,none⟩ v').heap[b]? = some (Obj.cells cs 195 (0,0)):=fun b cs hb=>by
  have hne:b≠P:=fun e'=>by
   subst e'
   have:=hb.symm.trans bP
   simp at this
  have hlt:=(Array.getElem?_eq_some_iff.1 hb).1
  exact (Below.heap_setCell w1 ⟨P,0,none⟩ v' b hne).trans ((hgrow.block b (by simp;omega) (chunk_not_row hb hrow)).trans ((Below.heap_alloc W tmp b hlt).trans hb))
 refine⟨a1,a2,a3,a4,a5,((bE.alloc tmp).kept hgrow (fun e'=>hvE e'.symm)).other hPE v',((bR.alloc tmp).kept hgrow (bR.not_row (by decide) hrow)).other hPR v',CK _ _ M,?_,CK⟩
 rcases hat with e'|e'
 ·rw[e'];exact hvE
 ·rw[e']
  intro e2
  injection e2 with e2
  have:=bE.lt
  simp at e2
  omega
theorem end_step {W:World} {n₀ P E Br m:Nat} {v e e' r:Value} {ys:List Value} {o:Obj}
    (bP:Boxed W P 48 v) (hrow:W.ownsRow n₀ 2 1 v m ys) (hvE:v.ownBlock≠some E) (bE:Boxed W E 2 e) (bR:Boxed W Br 48 r) (hn₀:n₀≤W.heap.size) (hE:n₀≤E) (hPE:E≠P) (hER:E≠Br) :
    Boxed ((W.alloc o).setCell ⟨E,0,none⟩ e') P 48 v∧((W.alloc o).setCell ⟨E,0,none⟩ e').ownsRow n₀ 2 1 v m ys∧Boxed ((W.alloc o).setCell ⟨E,0,none⟩ e') E 2 e'∧Boxed ((W.alloc o).setCell ⟨E,0,none⟩ e') Br 48 r∧KeepsOthers W ((W.alloc o).setCell ⟨E,0,none⟩ e')∧Below n₀ W ((W.alloc o).setCell ⟨E,0,none⟩ e') ∧
     ∀(b:Nat) (cs:Array Value),W.heap[b]? = some (Obj.cells cs 195 (0,0))→((W.alloc o).setCell ⟨E,0,none⟩ e').heap[b]? = some (Obj.cells cs 195 (0,0)):=by
 refine⟨(bP.alloc o).other (Ne.symm hPE) e',(hrow.alloc o).kept (grownBy_setCell' _ E e') (.inr hvE),(bE.alloc o).set e',(bR.alloc o).other (Ne.symm hER) e',(KeepsOthers.alloc W o).trans (KeepsOthers.setCell _ _ _),((Below.refl n₀ W).alloc hn₀ o).setCell (p:=⟨E,0,none⟩) hE e',fun b cs hb => ?_⟩
 have hne:b≠E:=fun e1=>by
  subst e1
  have:=hb.symm.trans bE
  simp at this
 exact (Below.heap_setCell _ ⟨E,0,none⟩ e' b hne).trans ((Below.heap_alloc W o b (Array.getElem?_eq_some_iff.1 hb).1).trans hb)
theorem own_first {W:World} {base g:Nat} (hg:W.heap[g]? = some (.cells #[] 2 (0,0))) (hb:base≤g):W.ownsRow base 2 1 (.slice (some ⟨g,0,none⟩) 0 0) 0 []:=
 ⟨rfl,.inr ⟨g,0,#[],rfl,hb,hg,Nat.le_refl _,by decide,rfl,rfl⟩⟩
attribute [local go_sem] Oper.semAt_some
set_option maxRecDepth 100000 in
set_option maxHeartbeats 4000000 in
theorem walk_yes {w:World} {a:Option Addr} {cap:Nat} {xs:List Int} (h:IntsAt w (.slice a xs.length cap) xs) (ha:AllI xs) (dr:rowOk xs=true) (F T:Nat) (hFT:F≤T) (hT:T≤xs.length) :
    Calls Tryz.prog 191 #[.slice a xs.length cap,.int .i64 F,.int .i64 T] w fun e w'=>∃v',e = .returned (.tuple #[v',.bool (walkOk xs F T)])∧rows.Own w' w.heap.size v' (walked xs F T)∧Below w.heap.size w w':=by
 have hr:=rowOk_true dr
 have h':=h
 obtain⟨a',cap',e,hlc,hcm,hnil,_⟩:=h
 injection e with e1 e2 e3
 subst e1 e3
 obtain⟨ad,hp,hI⟩:=piece_ints h' (by omega) T hT
 have CUT:=callsIn_wide (n:=8-1).2 (cut_yes (w:=w) (a:=a) hlc hcm 0 T (by omega))
 rw[hp]at CUT
 have ROW:=callsIn_wide (n:=8-1).2 (isRow_any h')
 rw[dr]at ROW
 clear hp
 refine callsIn_wide (n:=8).1 ?_
 refine callsIn_of_wp_marks Tryz.func191 rfl trivial ?_ rfl
 simp only[Tryz.ntmps191,List.size_toArray,List.length_cons,List.length_nil,Nat.reduceAdd,Nat.reduceSub,Array.replicate_succ,Array.replicate_zero,List.push_toArray,List.append_toArray,List.nil_append,List.cons_append]
 gi_wp2_with fail
 refine⟨trivial,CUT.mono ?_⟩
 rintro e w1 ⟨rfl,hw1⟩
 rw[hw1]
 clear hw1 w1 CUT
 gi_wp2_with fail
 refine⟨trivial,ROW.mono ?_⟩
 rintro e w1 ⟨rfl,hw1⟩
 rw[hw1]
 clear hw1 w1 ROW
 have hf1:¬(F:Int)<0:=by omega
 have hf2:¬(F:Int) > T:=by omega
 gi_wp2_with fail
 refine⟨trivial,(callsIn_wide.2 (chunks_any ad T T F _)).mono ?_⟩
 rintro e w1 ⟨rfl,hw1⟩
 have B0:Below w.heap.size w w1:=by
  rw[hw1]
  exact ((((((Below.refl _ w).alloc (Nat.le_refl _) _).alloc (by simp) _).alloc (by simp;omega) _).alloc (by simp;omega) _).alloc (by simp;omega) _)
 have s0:w1.heap.size=w.heap.size+5:=by rw[hw1];simp
 have E0:w1.heap[w.heap.size]? = some (.cells #[] 2 (0,0)):=by
  rw[hw1]
  exact (Below.heap_alloc _ _ _ (by simp;omega)).trans ((Below.heap_alloc _ _ _ (by simp;omega)).trans ((Below.heap_alloc _ _ _ (by simp;omega)).trans ((Below.heap_alloc _ _ _ (by simp)).trans (heap_alloc_new w _))))
 have bP:Boxed w1 (w.heap.size+1) 48 (.slice (some ⟨w.heap.size,0,none⟩) 0 0):=by
  rw[hw1]
  have:=Boxed.new (w.alloc (.cells #[] 2)) 48 (.slice (some ⟨w.heap.size,0,none⟩) 0 0)
  rw[World.size_alloc]at this
  exact ((this.alloc _).alloc _).alloc _
 have bE:Boxed w1 (w.heap.size+1+1) 2 (.int .i64 F):=by
  rw[hw1]
  have:=Boxed.new ((w.alloc (.cells #[] 2)).alloc (.cells #[.slice (some ⟨w.heap.size,0,none⟩) 0 0] 48)) 2 (.int .i64 F)
  rw[World.size_alloc,World.size_alloc]at this
  exact (this.alloc _).alloc _
 have bR:Boxed w1 (w.heap.size+1+1+1) 48 (.slice ad T T):=by
  rw[hw1]
  have:=Boxed.new (((w.alloc (.cells #[] 2)).alloc (.cells #[.slice (some ⟨w.heap.size,0,none⟩) 0 0] 48)).alloc (.cells #[.int .i64 F] 2)) 48 (.slice ad T T)
  rw[World.size_alloc,World.size_alloc,World.size_alloc]at this
  exact this.alloc _
 have bF:Boxed w1 (w.heap.size+1+1+1+1) 2 (.int .i64 F):=by
  rw[hw1]
  have:=Boxed.new ((((w.alloc (.cells #[] 2)).alloc (.cells #[.slice (some ⟨w.heap.size,0,none⟩) 0 0] 48)).alloc (.cells #[.int .i64 F] 2)).alloc (.cells #[.slice ad T T] 48)) 2 (.int .i64 F)
  rw[World.size_alloc,World.size_alloc,World.size_alloc,World.size_alloc]at this
  exact this
 have hI':∀W,Below w.heap.size w1 W→IntsAt W (.slice ad (xs.take T).length T) (xs.take T):=fun W hW=>intsAt_below hI (B0.trans hW)
 have el:(xs.take T).length=T:=by simp;omega
 have bR':Boxed w1 (w.heap.size+1+1+1) 48 (.slice ad (xs.take T).length T):=by rw[el];exact bR
 have haT:AllI (xs.take T):=allI_take ha T
 have hWB:=walk_by hT (by omega) (T-F) F (Nat.le_refl _) hFT
 have STOPS:=chunks_stops (8-1) (by decide) (w.heap.size+1+1+1) (w.heap.size+1+1+1+1) w.heap.size F ad T (xs.take T) (by omega) haT (by omega) w1 (by omega) (by omega) (by omega) bR' bF.cell hI'
 have hlen:=plO_length (xs.take T) F
 have CH:=chunk_le (xs.take T)
 have CN:=chunk_nat (xs.take T)
 rw[el]at hlen CH
 obtain⟨i0,hi,hz0,hz1,hz2⟩:=info_parts info
 generalize xs.take T=ys at *
 clear bR' bF hI' haT
 gi_wp2_with fail
 rw[←hw1]
 clear hw1
 refine wpIn_rangeFunc_ownH rfl (by decide) (gf:=215) (lb:=#[.pointer (some ⟨w.heap.size+1+1+1+1,0,none⟩),.pointer (some ⟨w.heap.size+1+1+1,0,none⟩)]) rfl trivial (enters_of Tryz.func215 (by kernel_rfl) rfl)
  STOPS kc_t (kc_b (by omega) (by omega)) (Below.refl _ _) (fun _=>rfl)
  (fun pre W=>(∃v,Boxed W (w.heap.size+1) 48 v∧W.ownsRow w.heap.size 2 1 v pre.length (cellsOf (pre.map (fun p=>(p.val:Int))))∧v.ownBlock≠some (w.heap.size+1+1))∧Boxed W (w.heap.size+1+1) 2 (.int .i64 (enf ys F pre))∧Boxed W (w.heap.size+1+1+1) 48 (.slice ad T T)∧Below w.heap.size w W)
  (fun _ _ _=>False)
  (OwnFrom.and (Own.from (holdsRow_own w.heap.size (w.heap.size+1) 48 2 1 (fun pre:List Pl=>pre.length) (fun pre:List Pl=>cellsOf (pre.map (fun p=>(p.val:Int)))) (fun _ v=>v.ownBlock≠some (w.heap.size+1+1))) _) (OwnFrom.and (Own.from (boxed_own _ _ (fun pre=>Value.int .i64 (enf ys F pre))) _) (OwnFrom.and (Own.from (boxed_own _ _ (fun _=>Value.slice ad T T)) _) (ownFrom_below (Nat.le_refl _) (by omega)))))
  (fun _ _ _ _ _ hs _ _=>hs)
  ⟨⟨_,bP,own_first E0 (Nat.le_refl _),fun e=>by have e':w.heap.size=w.heap.size+1+1:=Option.some.inj e;omega⟩,bE,bR,B0⟩
  (fun x a' W=>∃Bx,w.heap.size+1+1+1<Bx∧ChAt W Bx (uS (ys.getD x.val 0)) (uF (ys.getD x.val 0)) (uC (ys.getD x.val 0)) (uH (ys.getD x.val 0)) (uP (ys.getD x.val 0)) (uM (ys.getD x.val 0)) (piece ad x.val (chunk ys x.val).toNat) ∧
   a' = { tmps:=#[.slice a xs.length cap,.int .i64 F,.int .i64 T,undef,undef,undef,.slice none 0 0,.bool false,.slice ad T T,.bool true,.pointer (some ⟨w.heap.size+1,0,none⟩),.pointer (some ⟨w.heap.size+1+1,0,none⟩),.int .i64 (x.val:Int),.pointer (some ⟨Bx,0,none⟩),
    .tuple #[.slice ad T T,.bool true],.slice a xs.length cap,.int .i64 T,.tuple #[.slice ad T T,.bool true],.slice ad T T,.bool true,.slice a xs.length cap,.bool true,.bool false,.bool false,.bool true,.bool false,.bool false,.bool false,.int .i64 F,
    .bool (decide ((F:Int)<0)),.bool (decide ((F:Int)<0)),.bool (decide ((F:Int)<0)),.int .i64 F,.int .i64 T,.bool false,.bool (decide ((F:Int)<0)),.slice (some ⟨w.heap.size,0,none⟩) 0 0,.int .i64 F,.slice ad T T,.int .i64 F,
    .func (.func 215) #[] #[.pointer (some ⟨w.heap.size+1+1+1+1,0,none⟩),.pointer (some ⟨w.heap.size+1+1+1,0,none⟩)],.int .i64 (x.val:Int),cv (uS (ys.getD x.val 0)) (uF (ys.getD x.val 0)) (uC (ys.getD x.val 0)) (uH (ys.getD x.val 0)) (uP (ys.getD x.val 0)) (uM (ys.getD x.val 0)) (piece ad x.val (chunk ys x.val).toNat),undef,undef,undef,undef,undef,undef,undef,undef,undef,undef,undef,undef],defers:=[] })
  (fun x a' _ X Y row hs hg hr=>by
   obtain⟨Bx,h1,h2,h3⟩:=hs
   exact⟨Bx,h1,(hg.block Bx (lt_of_block h2) (fun e=>by obtain⟨_,o,ho,hc⟩:=hr Bx e.symm;rw[show X.heap[Bx]? = _ from h2]at ho;cases ho;cases hc)).trans h2,h3⟩)
  ?assign ?body ?done ?stop
 case assign=>
  rintro l pre x W K ⟨⟨v,c1,c2,c3⟩,c4,c5,c6⟩ hK
  have sW:=c6.size
  have hlt:=c5.lt
  simp only[encs,piece]at hK ⊢
  generalize uS (ys.getD x.val 0)=s at *
  generalize uF (ys.getD x.val 0)=f at *
  generalize uC (ys.getD x.val 0)=c at *
  generalize uH (ys.getD x.val 0)=g at *
  generalize uP (ys.getD x.val 0)=p at *
  generalize uM (ys.getD x.val 0)=m at *
  generalize (chunk ys x.val).toNat=N at *
  generalize (if N=0 then ad else Option.map (fun y=>y.add x.val) ad)=pd at *
  gi_wp2
  exact hK _ _ ((KeepsOthers.alloc _ _).from _) ⟨(Below.refl _ W).alloc sW _,Below.heap_alloc W _ _ hlt,fun b cs hb=>(Below.heap_alloc W _ b (Array.getElem?_eq_some_iff.1 hb).1).trans hb⟩ ⟨⟨v,c1.alloc _,c2.alloc _,c3⟩,c4.alloc _,c5.alloc _,c6.alloc sW _⟩ ⟨W.heap.size,hlt,chAt_new W s f c g p m (.slice pd N N),rfl⟩
 case body=>
  rintro l pre x a' W hl ⟨r,hr'⟩ ⟨⟨v,c1,c2,c3⟩,c4,c5,c6⟩ ⟨Bx,hBx,M,rfl⟩ hlt
  have sW:=c6.size
  have x1:=x.isLt
  have x2:=CH x.val
  have x3:=CN x.val
  generalize hN:(chunk ys x.val).toNat=N at *
  have es:enf ys F (pre++[x])=(x.val:Int)+N:=by rw[enf_snoc,x3]
  have em:cellsOf ((pre++[x]).map (fun p=>(p.val:Int)))=cellsOf (pre.map (fun p=>(p.val:Int)))++[.int .i64 (x.val:Int)]:=by simp[cellsOf]
  have hN1:N≤1000:=by omega
  have ep:(pre++[x]).length=pre.length+1:=by simp
  unfold piece at M ⊢
  generalize uS (ys.getD x.val 0)=s at *
  generalize uF (ys.getD x.val 0)=f at *
  generalize uC (ys.getD x.val 0)=c at *
  generalize uH (ys.getD x.val 0)=g at *
  generalize uP (ys.getD x.val 0)=p at *
  generalize uM (ys.getD x.val 0)=m at *
  generalize (if N=0 then ad else Option.map (fun y=>y.add x.val) ad)=pd at *
  generalize hpost:pre++[x]=post at *
  generalize hxv:(x.val:Int)=xv at *
  have hx1:0≤xv∧xv≤1000:=by omega
  generalize hcs:cellsOf (pre.map (fun p=>(p.val:Int)))=cs at *
  have hpl:pre.length<1000:=by omega
  have cP:=c1.cell
  have hfin:∀(v':Value) (w1:World),w1.ownsRow w.heap.size 2 1 v' (pre.length+1) (cs++[.int .i64 xv])→(W.alloc (.cells #[.int .i64 xv] 2)).grownBy w1 v.ownBlock→(v'.ownBlock=v.ownBlock∨v'.ownBlock=some (W.alloc (.cells #[.int .i64 xv] 2)).heap.size)→_:=fun v' w1 q1 q2 q3=>app_step c1 c2 c3 c4 c5 M sW (by omega) (by omega) (by omega) q1 q2 q3
  have HF:Hid _:=hfin
  have HE:Hid _:=(⟨es,em,ep⟩:_∧_∧_)
  clear hfin es em ep M hpost hxv x2 x3 STOPS CH CN E0 bP bE bR hcs hN hI
  have SZ:∀W,_:=fun W=>callsIn_wide (n:=8-1-1-1).2 (size_any s f c g p m pd N N W)
  gi_wp2_with (first
   |(gi_at_builtin;refine wpListIn_append_own_at _ rfl _ _ 48 rfl w.heap.size 2 i0 (.int .i64 0) 1 8 Tryz.underlying48 hi hz0 hz1 hz2 rfl (by decide) _ _ _ rfl (c2.alloc _) ⟨W.heap.size,0,none⟩ 1 1 [.int .i64 xv] rfl rfl (cell_one_new _ _ _) (by simp[Value.oneCell']) (by unfold maxLen;omega) (by omega) (by simp;omega) ?_
     intro v' w1 hown' hgrow _ hat
     obtain⟨g',cap',rfl⟩:=ownsRow_succ hown'
     obtain⟨q1,q2,q3,q4,q5,q6,q7,q8,q9,q10⟩:=HF.out _ _ hown' hgrow hat
     have hc1:=q1.cell
     have hf1:=q1.frozen
     have hc6:=(q6.alloc (cb s f c g p m (.slice pd N N))).cell
     have hf6:=(q6.alloc (cb s f c g p m (.slice pd N N))).frozen
     obtain⟨m0,m1,m2,m3,m4,m5,m6,_⟩:=chAt_cells q8
     have H2:Hid _:=q2
     have H3:Hid _:=q3
     have H4:Hid _:=q4
     have H5:Hid _:=q5
     have H6:Hid _:=q6
     have H7:Hid _:=q7
     have H9:Hid _:=q9
     have H10:Hid _:=q10
     clear hown' hgrow hat q1 q2 q3 q4 q5 q6 q7 q8 q9 q10 HF c1 c2 c4 cP
     have c5':Boxed W _ _ _:=c5
     clear c5)
   |(refine⟨trivial,?_⟩;gi_at_call 207;refine (CallsIn.inRound l (SZ _)).mono ?_;rintro e w' ⟨rfl,rfl⟩))
  obtain⟨es,em,ep⟩:=HE.out
  obtain⟨p1,p2,p3,p4,p5,p6,p7⟩:=end_step (o:=cb s f c g p m (.slice pd N N)) (e':=.int .i64 (xv+N)) H2.out H3.out H9.out H6.out H7.out (Nat.le_trans sW H5.out.size) (by omega) (by omega) (by omega)
  refine⟨(H4.out.trans p5).from _,⟨H5.out.trans p6,p4.trans c5'.symm,fun b cs hb=>p7 b cs (H10.out b cs hb)⟩,⟨_,p1,?_,H9.out⟩,?_,p4,(c6.trans H5.out).trans p6⟩
  ·rw[ep,em];exact p2
  ·rw[es];exact p3
 case done=>
  rintro D zs W hD rfl ⟨⟨v,c1,c2,c3⟩,c4,c5,c6⟩ hK
  have cP:=c1.cell
  have cE:=c4.cell
  have hBD:=c6.trans (belowK_b (w:=w) (Nat.le_refl _) W D _ (.deferred none) (by omega) hK rfl rfl)
  have RG:rangeOk xs F T=true:=by simp only[rangeOk,dr,Bool.true_and,decide_eq_true_eq];omega
  by_cases hend:enf ys F (plO ys F)=T
  ·rw[if_pos hend]at hWB
   have wk:walkR xs F T=some ((plO ys F).map (fun p=>(p.val:Int))):=by unfold walkR;rw[if_pos RG];exact hWB
   have w1':walkOk xs F T=true:=by unfold walkOk;rw[wk];rfl
   have w2':walked xs F T=(plO ys F).map (fun p=>(p.val:Int)):=by unfold walked;rw[wk];rfl
   rw[hend]at cE
   have HO:Hid (rows.Own (W.putObj D (.deferred none)) w.heap.size v ((plO ys F).map (fun p=>(p.val:Int)))):=by
    have:=ownsRow_putObj c2 (.deferred none) hK rfl
    show World.ownsRow _ _ _ _ _ _ _
    rw[List.length_map]
    exact this
   have HBD:Hid _:=hBD
   have HW:Hid (walkOk xs F T=true∧walked xs F T=(plO ys F).map (fun p=>(p.val:Int))):=⟨w1',w2'⟩
   clear hWB wk w1' w2' hBD c1 c2 c3 c4 c5 c6 STOPS CH CN E0 bP bE bR hI RG hend B0
   gi_wp2
   refine⟨by simp,.inl ⟨_,_,rfl,run_takeDeferred hK,?_⟩⟩
   exact⟨_,results_tmp2 rfl _ _ _,v,by rw[HW.out.1];rfl,by rw[HW.out.2];exact HO,HBD⟩
  ·rw[if_neg hend]at hWB
   have wk:walkR xs F T=none:=by unfold walkR;rw[if_pos RG];exact hWB
   have w1':walkOk xs F T=false:=by unfold walkOk;rw[wk];rfl
   have w2':walked xs F T=[]:=by unfold walked;rw[wk];rfl
   have HBD:Hid _:=hBD
   have HW:Hid (walkOk xs F T=false∧walked xs F T=[]):=⟨w1',w2'⟩
   clear hWB wk w1' w2' hBD c1 c2 c3 c4 c5 c6 STOPS CH CN E0 bP bE bR hI RG B0
   generalize enf ys F (plO ys F)=en at *
   have hend':(en==(T:Int))=false:=by simpa using hend
   gi_wp2
   refine⟨by simp,.inl ⟨_,_,rfl,run_takeDeferred hK,?_⟩⟩
   exact⟨_,results_tmp2 rfl _ _ _,_,by rw[HW.out.1];rfl,by rw[HW.out.2];exact own_nil _ _,HBD⟩
 case stop=>
  rintro D c pre W _ _ h _
  exact h.elim
theorem implWalk (w:World) (v:Value) (xs:List Int) (f:Int) (t:Int) (h:IntsAt w v xs) (_hl:xs.length≤1048576) (ha:AllI xs) (_hf:I64 f) (ht:I64 t) :
    Calls Tryz.prog 191 #[v,.int .i64 f,.int .i64 t] w fun e w'=>∃v',e = .returned (.tuple #[v',.bool (walkOk xs f t)])∧rows.Own w' w.heap.size v' (walked xs f t)∧Below w.heap.size w w':=by
 cases d:rangeOk xs f t
 ·have wk:walkR xs f t=none:=by unfold walkR;rw[d];rfl
  have w1:walkOk xs f t=false:=by unfold walkOk;rw[wk];rfl
  have w2:walked xs f t=[]:=by unfold walked;rw[wk];rfl
  rw[w1,w2]
  exact walk_no h ht d
 ·have d':=d
  simp only[rangeOk,Bool.and_eq_true,decide_eq_true_eq]at d'
  obtain⟨dr,f0,ft,tl⟩:=d'
  obtain⟨F,rfl⟩:=Int.eq_ofNat_of_zero_le f0
  obtain⟨T,rfl⟩:∃T:Nat,t=T:=Int.eq_ofNat_of_zero_le (by omega)
  have h':=h
  obtain⟨a,cap,rfl,_,_,_,_⟩:=h
  exact walk_yes h' ha dr F T (by omega) (by omega)
end Go.Proofs.YtkiognecebgaiaaGreatDoor.walks
