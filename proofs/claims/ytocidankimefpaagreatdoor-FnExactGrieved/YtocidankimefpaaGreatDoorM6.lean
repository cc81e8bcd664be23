/- Chapter 4 as lists: what a chunk takes,  -/
import Derived.Test.YtocidankimefpaaGreatDoorUnpack
import Derived.Test.YtocidankimefpaaGreatDoorWordOk
import Derived.RangeFuncNested
import Derived.RangeFuncCalls
import Derived.RangeFuncLeaves
import Derived.Shelf.Abstract
import Derived.OwnWalkIn
import Derived.TacticsInMore
import Derived.LoopNIn
import Derived.LoopIn
set_option maxRecDepth 100000
namespace Go.Proofs.YtocidankimefpaaGreatDoor.walks
open Go.RowKit rows heads words
def iO (xs:List Int):Prop:=∀x ∈ xs,I64 x
theorem xY {xs:List Int} (h:iO xs) {k:Nat} (hk:k<xs.length):I64 (xs.getD k 0):=by
 have e:xs.getD k 0=xs[k]:=by simp[List.getD_eq_getElem?_getD,List.getElem?_eq_getElem hk]
 rw[e];exact h _ (List.getElem_mem hk)
theorem mM:iO []:=fun _ h=>by simp at h
theorem CW {xs:List Int} (h:iO xs) (n:Nat):iO (xs.take n):=fun x hx=>h x (List.mem_of_mem_take hx)
theorem cu (x:Int):0≤uS x∧uS x≤20:=by
 unfold uS;split
 ·rename_i h
  rw[ok_eq,Bool.and_eq_true]at h;obtain⟨b1,b2,_⟩:=iq h.2;exact⟨b1,b2⟩
 ·omega
theorem Im {s:Int} (h0:0≤s) (h1:s≤20):sz s=s+1+(s+1) % 2:=by simp[sz,inR,h0,h1]
theorem cD {s:Int} (h0:0≤s) (h1:s≤20):2≤sz s∧sz s≤22∧sz s % 2=0∧s+1≤sz s∧sz s≤s+2:=by rw[Im h0 h1];omega
def dw (n k:Nat) (y:Int):Bool:=decide (2≤y∧y≤n∧y % 2=0∧(k:Int)+y≤n)
def chunk (xs:List Int) (k:Nat):Int:=
 if (ok (xs.getD k 0) && !uM (xs.getD k 0))=true then
  if uF (xs.getD k 0)=6 then
   if k+1<xs.length∧dw xs.length k (xs.getD (k+1) 0)=true then xs.getD (k+1) 0 else 0
  else if (k:Int)+sz (uS (xs.getD k 0))≤xs.length∧(uF (xs.getD k 0)=7→isA (xs.getD (k+1) 0)=true) then sz (uS (xs.getD k 0)) else 0
 else 0
theorem aR (xs:List Int) (k:Nat):chunk xs k=0∨(2≤chunk xs k∧chunk xs k % 2=0∧(k:Int)+chunk xs k≤xs.length):=by
 unfold chunk;split
 ·split
  ·split
   ·rename_i h
    have:=h.2
    simp only[dw,decide_eq_true_eq]at this;omega
   ·exact .inl rfl
  ·split
   ·rename_i h
    obtain⟨b1,b2⟩:=cu (xs.getD k 0);have:=cD b1 b2
    omega
   ·exact .inl rfl
 ·exact .inl rfl
theorem zb (xs:List Int) (k:Nat):0≤chunk xs k∧chunk xs k≤xs.length:=by
 have:=aR xs k
 omega
def walkL (xs:List Int) (t:Nat):Nat→Nat→Option (List Int)
 |0,k=>if k<t then none else some []
 |n+1,k=>if k<t then (if chunk xs k=0∨(k:Int)+chunk xs k > t then none else (walkL xs t n (k+(chunk xs k).toNat)).map ((k:Int) :: ·)) else some []
theorem ew (xs:List Int) (t n k:Nat) (h:¬k<t):walkL xs t n k=some []:=by cases n<;>simp[walkL,h]
theorem fD (xs:List Int) (t n k:Nat) (h:k<t) (hb:chunk xs k=0∨(k:Int)+chunk xs k > t):walkL xs t n k=none:=by cases n<;>simp[walkL,h,hb]
theorem dL (xs:List Int) (t n k:Nat) (h:k<t) (hb:¬(chunk xs k=0∨(k:Int)+chunk xs k > t)):walkL xs t (n+1) k=(walkL xs t n (k+(chunk xs k).toNat)).map ((k:Int) :: ·):=by simp[walkL,h,hb]
theorem Al (xs:List Int) (t:Nat):∀(n m k:Nat),t-k≤n→t-k≤m→walkL xs t n k=walkL xs t m k:=by
 intro n;induction n with
 |zero=>intro m k h _;rw[ew _ _ _ _ (by omega),ew _ _ _ _ (by omega)]
 |succ n ih=>
  intro m k h h';by_cases h1:k<t
  ·by_cases hb:chunk xs k=0∨(k:Int)+chunk xs k > t
   ·rw[fD _ _ _ _ h1 hb,fD _ _ _ _ h1 hb]
   ·have:=aR xs k
    obtain⟨m',rfl⟩:∃m',m=m'+1:=⟨m-1,by omega⟩
    rw[dL _ _ _ _ h1 hb,dL _ _ _ _ h1 hb,ih m' _ (by omega) (by omega)]
  ·rw[ew _ _ _ _ h1,ew _ _ _ _ h1]
def fV (xs:List Int) (k t:Nat):Option (List Int):=walkL xs t (t-k) k
theorem qZ {xs:List Int} {k t:Nat} (h:¬k<t):fV xs k t=some []:=ew _ _ _ _ h
theorem mN {xs:List Int} {k t:Nat} (h:k<t) (hb:chunk xs k=0∨(k:Int)+chunk xs k > t):fV xs k t=none:=fD _ _ _ _ h hb
theorem nV {xs:List Int} {k t:Nat} (h:k<t) (hb:¬(chunk xs k=0∨(k:Int)+chunk xs k > t)):fV xs k t=(fV xs (k+(chunk xs k).toNat) t).map ((k:Int) :: ·):=by
 have:=aR xs k
 unfold fV;obtain⟨m,hm⟩:∃m,t-k=m+1:=⟨t-k-1,by omega⟩
 rw[hm,dL _ _ _ _ h hb,Al xs t m (t-(k+(chunk xs k).toNat)) _ (by omega) (by omega)]
def gC (xs:List Int) (f t:Int):Bool:=jl xs&&decide (0≤f∧f≤t∧t≤xs.length)
def lI (xs:List Int) (f t:Int):Option (List Int):=if gC xs f t=true then fV xs f.toNat t.toNat else none
def fK (xs:List Int) (f t:Int):Bool:=(lI xs f t).isSome
def walked (xs:List Int) (f t:Int):List Int:=(lI xs f t).getD []
theorem oM (xs:List Int) (t:Nat) (ht:t≤1048576):∀(n k:Nat) (l:List Int),walkL xs t n k=some l→2*l.length≤t-k∧iO l:=by
 intro n;induction n with
 |zero=>
  intro k l h;unfold walkL at h;split at h
  ·cases h
  ·cases h;exact⟨by simp,mM⟩
 |succ n ih=>
  intro k l h;by_cases h1:k<t
  ·by_cases hb:chunk xs k=0∨(k:Int)+chunk xs k > t
   ·rw[fD _ _ _ _ h1 hb]at h;cases h
   ·have:=aR xs k
    rw[dL _ _ _ _ h1 hb]at h;obtain⟨l',hl',rfl⟩:=Option.map_eq_some_iff.1 h;obtain⟨i1,i2⟩:=ih _ _ hl';refine⟨by simp;omega,fun x hx => ?_⟩
    rcases List.mem_cons.1 hx with rfl|hx
    ·unfold I64;omega
    ·exact i2 x hx
  ·rw[ew _ _ _ _ h1]at h;cases h;exact⟨by simp,mM⟩
theorem jq (xs:List Int) (f t:Int):(walked xs f t).length≤1000∧iO (walked xs f t):=by
 unfold walked lI;split
 ·rename_i h
  simp only[gC,jl,Bool.and_eq_true,decide_eq_true_eq]at h;cases e:fV xs f.toNat t.toNat with
  |none=>exact⟨by simp,mM⟩
  |some l=>
   have:=oM xs t.toNat (by omega) _ _ _ e
   exact⟨by simp;omega,this.2⟩
 ·exact⟨by simp,mM⟩
def put (xs:List Int) (k:Nat) (hd:Int) (ys:List Int) (j n:Nat):List Int:=xs.take k++(hd :: (ys.take j++List.replicate (n-1-j) 0))++xs.drop (k+n)
def Jl (xs:List Int) (i:Int) (s f c h:Int) (p m:Bool) (ys:List Int):Bool:=
 jl xs&&(hok s f c h p m&&decide (f≤2) && !m&&decide ((ys.length:Int)=s)&&DA xs i&&decide (i+sz s≤xs.length))&&ys.all isW
def putRow (xs:List Int) (i:Int) (s f c h:Int) (p m:Bool) (ys:List Int):List Int:=
 if Jl xs i s f c h p m ys=true then put xs i.toNat (pk s f c h p m) ys ys.length (sz s).toNat else if jl xs=true then xs else []
end Go.Proofs.YtocidankimefpaaGreatDoor.walks
namespace Go.Proofs.YtocidankimefpaaGreatDoor.words
open Go.RowKit
def iv (n:Int):Int:=if isI n then n / 4 else 0
def av (n:Int):Int:=if isA n then n / 4-1 else 0
def oa (a:Int):Int:=if 0≤a∧a≤999 then (a+1)*4 else 2
theorem CZ (n:Int) (w:World) (b1 : -9223372036854775808≤n) (b2:n≤9223372036854775807) :
    Calls Tryz.prog 143 #[.int .i64 n] w fun e w'=>e = .returned (.tuple #[.int .i64 (iv n),.bool (isI n)])∧w'=w:=by
 cases hi:isI n
 ·have e:iv n=0:=by simp[iv,hi]
  rw[e];exact Ff n w b1 b2 hi
 ·have e:iv n=n / 4:=by simp[iv,hi]
  rw[e];exact Dy n w b1 b2 hi
theorem ta (n:Int) (w:World) (b1 : -9223372036854775808≤n) (b2:n≤9223372036854775807) :
    Calls Tryz.prog 160 #[.int .i64 n] w fun e w'=>e = .returned (.tuple #[.int .i64 (av n),.bool (isA n)])∧w'=w:=by
 cases hi:isA n
 ·have e:av n=0:=by simp[av,hi]
  rw[e];exact Dz n w b1 b2 hi
 ·have e:av n=n / 4-1:=by simp[av,hi]
  rw[e];exact AW n w b1 b2 hi
theorem Am (n:Int) (w:World) :
    Calls Tryz.prog 140 #[.int .i64 n] w fun e w'=>e = .returned (.tuple #[.int .i64 (iv n),.bool (isI n)])∧w'=w:=by
 cases hi:isI n
 ·have e:iv n=0:=by simp[iv,hi]
  rw[e];exact rC n w hi
 ·have e:iv n=n / 4:=by simp[iv,hi]
  rw[e];exact tw n w hi
theorem dG (n:Int) (w:World) :
    Calls Tryz.prog 87 #[.int .i64 n] w fun e w'=>e = .returned (.tuple #[.int .i64 (av n),.bool (isA n)])∧w'=w:=by
 cases hi:isA n
 ·have e:av n=0:=by simp[av,hi]
  rw[e];exact kU n w hi
 ·have e:av n=n / 4-1:=by simp[av,hi]
  rw[e];exact lJ n w hi
end Go.Proofs.YtocidankimefpaaGreatDoor.words
namespace Go.Proofs.YtocidankimefpaaGreatDoor.walks
open Go.RowKit rows
theorem oN {k:IntKind} {w:World} {a:Option Addr} {len cap:Nat} {zs:List Int} (hk:k = .i64)
    (h:(a=none∧len=0∧cap=0∧zs=[])∨∃x,a=some x∧len≤cap∧cap≤maxLen∧zs.length=cap∧(∀i,i<zs.length→w.cell? (x.add i)=some (.int k (zs.getD i 0)))∧∀n ∈ zs,(Lit.int k n).wf=true) :
    ∃xs,xs.length=len∧au w (.slice a len cap) xs∧iO xs:=by
 subst hk;rcases h with ⟨rfl,rfl,rfl,rfl⟩|⟨x,rfl,hl,hm,hz,hc,hwf⟩
 ·exact⟨[],rfl,⟨none,0,rfl,Nat.le_refl _,by decide,fun _=>rfl,fun hp=>absurd hp (by simp)⟩,mM⟩
 ·have e:(zs.take len).length=len:=by simp;omega
  refine⟨zs.take len,e,⟨some x,cap,by rw[e],by omega,hm,fun h=>(by cases h),fun hp => ?_⟩,fun y hy=>iT (hwf y (List.mem_of_mem_take hy))⟩
  obtain⟨b,off,rfl,hc'⟩:=ints_at hc (by omega);refine⟨b,off,rfl,World.block_lt_of_cell? w _ (hc' 0 (by omega)),fun i hi => ?_⟩
  rw[hc' i (by omega)];simp only[List.getD_eq_getElem?_getD];rw[List.getElem?_take,if_pos (by omega)]
end Go.Proofs.YtocidankimefpaaGreatDoor.walks
namespace Go.Proofs.YtocidankimefpaaGreatDoor.walks
open Go.RowKit rows heads words
theorem mO (xs:List Int) (t:Nat) (_ht:t≤xs.length):∀(n k:Nat) (l:List Int),walkL xs t n k=some l→∀x ∈ l,∃j:Nat,x=j∧k≤j∧j<t∧chunk xs j≠0:=by
 intro n;induction n with
 |zero=>
  intro k l h;unfold walkL at h;split at h
  ·cases h
  ·cases h;simp
 |succ n ih=>
  intro k l h;by_cases h1:k<t
  ·by_cases hb:chunk xs k=0∨(k:Int)+chunk xs k > t
   ·rw[fD _ _ _ _ h1 hb]at h;cases h
   ·rw[dL _ _ _ _ h1 hb]at h;obtain⟨l',hl',rfl⟩:=Option.map_eq_some_iff.1 h;intro x hx;rcases List.mem_cons.1 hx with rfl|hx
    ·exact⟨k,rfl,Nat.le_refl _,h1,fun e=>hb (.inl e)⟩
    ·obtain⟨j,a,b,c,d⟩:=ih _ _ hl' x hx;exact⟨j,a,by omega,c,d⟩
  ·rw[ew _ _ _ _ h1]at h;cases h;simp
theorem nX {xs:List Int} {f t:Int} {x:Int} (h:x ∈ walked xs f t):∃j:Nat,x=j∧j<xs.length∧jl xs=true∧chunk xs j≠0:=by
 unfold walked lI at h;split at h
 ·rename_i hr
  simp only[gC,Bool.and_eq_true,decide_eq_true_eq]at hr;cases e:fV xs f.toNat t.toNat with
  |none=>rw[e]at h;simp at h
  |some l=>
   rw[e]at h;obtain⟨j,a,_,c,d⟩:=mO xs t.toNat (by omega) _ _ _ e x (by simpa using h);exact⟨j,a,by omega,hr.1,d⟩
 ·simp at h
theorem D1 {w:World} {v:Value} {xs:List Int} (h:au w v xs) (hl:xs.length≤1048576) (i:Int) (hi:I64 i) (d:oB xs i=false) :
    Calls Tryz.prog 188 #[v,.int .i64 i] w fun e w'=>e = .returned (.tuple #[hv 0 0 0 0 false false,.bool false])∧Below w.heap.size w w':=by
 have B0:Below w.heap.size w (w.alloc (hb 0 0 0 0 false false)):=(Below.refl _ _).alloc (Nat.le_refl _) _;have T0:=cH w 0 0 0 0 false false;have s0:w.heap.size+1≤(w.alloc (hb 0 0 0 0 false false)).heap.size:=by simp
 have RD:=nI _ v xs i (aa h B0) hl hi;rw[d]at RD;go_enter Tryz.func188,Tryz.ntmps188;go_wp2_with fail;generalize (w.alloc (Obj.cells #[.int .i64 0,.int .i64 0,.int .i64 0,.int .i64 0,.bool false,.bool false] 54))=X at *;refine RD.mono ?_;rintro e w1 ⟨rfl,b1⟩;have T1:=bG T0 b1;have B1:=B0.trans (b1.mono (by omega));obtain⟨t0,t1,t2,t3,t4,t5,tf⟩:=aO T1;have f0:=tf 0;have f1:=tf 1;have f2:=tf 2;have f3:=tf 3;have f4:=tf 4;have f5:=tf 5;have T2:Hid _:=jK T1 0 0 0 0 false false;have B2:Hid _:=fk B1 (Nat.le_refl _) 0 0 0 0 false false;clear b1 RD T0 B0 B1 tf T1;generalize eP xs i=z at *;go_wp2;exact bodyPost_ret (v:=.tuple #[hv 0 0 0 0 false false,.bool false]) (jL rfl rfl rfl T2) rfl ⟨rfl,B2⟩
theorem xZ {w:World} {b:Nat} {s f c h:Int} {p m:Bool} (hh:bK w b s f c h p m):bK w.drew b s f c h p m:=hh
theorem An {w:World} {v:Value} {xs:List Int} (h:au w v xs) (hl:xs.length≤1048576) (k:Nat) (d:oB xs k=true) (hx:I64 (xs.getD k 0)) :
    Calls Tryz.prog 188 #[v,.int .i64 k] w fun e w'=>e = .returned (.tuple #[hv (uS (xs.getD k 0)) (uF (xs.getD k 0)) (uC (xs.getD k 0)) (uH (xs.getD k 0)) (uP (xs.getD k 0)) (uM (xs.getD k 0)),.bool (ok (xs.getD k 0) && !uM (xs.getD k 0))])∧Below w.heap.size w w':=by
 have hk:(k:Int)<xs.length:=(jR (by simp only[oB,Bool.and_eq_true]at d;exact d.2)).2;have B0:Below w.heap.size w (w.alloc (hb 0 0 0 0 false false)):=(Below.refl _ _).alloc (Nat.le_refl _) _;have T0:=cH w 0 0 0 0 false false;have s0:w.heap.size+1≤(w.alloc (hb 0 0 0 0 false false)).heap.size:=by simp
 have RD:=nI _ v xs k (aa h B0) hl ⟨by omega,by omega⟩;have er:eP xs k=xs.getD k 0:=by simp[eP,d]
 rw[d,er]at RD;generalize xs.getD k 0=x at *;have UN:∀W,_:=fun W=>wJ x hx.2 W
 generalize ok x=o at *;generalize uS x=s at *;generalize uF x=f at *;generalize uC x=c at *;generalize uH x=g at *;generalize uP x=p at *;generalize uM x=m at *;clear er;go_enter Tryz.func188,Tryz.ntmps188;go_wp2_with fail;generalize (w.alloc (Obj.cells #[.int .i64 0,.int .i64 0,.int .i64 0,.int .i64 0,.bool false,.bool false] 54))=X at *;refine RD.mono ?_;rintro e w1 ⟨rfl,b1⟩;have s1:=b1.size;have T1:=bG T0 b1;have B1:=B0.trans (b1.mono (by omega));clear b1 RD T0 B0;go_wp2_with fail;refine (UN _).mono ?_;clear UN;rintro e w2 ⟨rfl,b2⟩;have s2:=b2.size;have T2:=ot (bG T1 b2) (hb s f c g p m);have B2:=(B1.trans (b2.mono (by omega))).alloc (by omega) (hb s f c g p m);have N2:=cH w2 s f c g p m;clear b2 T1 B1;have ne:w.heap.size≠w2.heap.size:=by omega
 go_wp2_with fail;generalize hY:w2.alloc (Obj.cells #[.int .i64 s,.int .i64 f,.int .i64 c,.int .i64 g,.bool p,.bool m] 54)=Y at *;clear hY;have T2:bK Y w.heap.size 0 0 0 0 false false:=T2;have N2:bK Y w2.heap.size s f c g p m:=N2;have B2:Below w.heap.size w Y:=B2;obtain⟨t0,t1,t2,t3,t4,t5,tf⟩:=aO T2;have f0:=tf 0;have f1:=tf 1;have f2:=tf 2;have f3:=tf 3;have f4:=tf 4;have f5:=tf 5;obtain⟨n0,n1,n2,n3,n4,n5,nf⟩:=aO N2;have T3:Hid _:=xZ (jK T2 s f c g p m);have B3:Hid _:=(fk B2 (Nat.le_refl _) s f c g p m).drew;clear tf nf N2 B2 T2;cases o
 ·go_region;all_goals go_wp2
  all_goals exact bodyPost_ret (v:=.tuple #[hv s f c g p m,.bool false]) (jL rfl rfl rfl T3) rfl ⟨rfl,B3⟩
 ·go_region;all_goals go_wp2
  all_goals exact bodyPost_ret (v:=.tuple #[hv s f c g p m,.bool (!m)]) (jL rfl rfl rfl T3) rfl ⟨rfl,B3⟩
def y9 (n:Int):Bool:=decide (2≤n∧n % 2=0)
theorem rh (n:Int) (w:World) (hn:I64 n) :
    Calls Tryz.prog 201 #[.int .i64 n] w fun e w'=>e = .returned (.bool (y9 n))∧w'=w:=by
 unfold I64 at hn;by_cases h1:n ≥ 2
 ·by_cases h2:n % 2=0
  ·have e:y9 n=true:=by simp[y9,h2];omega
   go_enter Tryz.func201,Tryz.ntmps201;go_wp2;go_ret;exact⟨by simp[e],rfl⟩
  ·have e:y9 n=false:=by simp[y9,h2]
   go_enter Tryz.func201,Tryz.ntmps201;go_wp2;go_ret;exact⟨by simp[e,h2],rfl⟩
 ·have e:y9 n=false:=by simp[y9];omega
  go_enter Tryz.func201,Tryz.ntmps201;go_wp2;go_ret;exact⟨rfl,rfl⟩
def yb (xs:List Int) (k:Nat) (s f:Int):Int:=if f=6 then (if y9 (eP xs ((k:Int)+1))=true then eP xs ((k:Int)+1) else 0) else sz s
theorem zd {xs:List Int} (h:iO xs) (i:Int):I64 (eP xs i):=by
 unfold eP;split
 ·rename_i d
  simp only[oB,Bool.and_eq_true]at d;have:=jR d.2
  exact xY h (by omega)
 ·exact⟨by decide,by decide⟩
theorem Ao {w:World} {v:Value} {xs:List Int} (h:au w v xs) (hl:xs.length≤1048576) (ha:iO xs) (k:Nat) (hk:k≤1048576) (s f c g:Int) (p m:Bool) :
    Calls Tryz.prog 189 #[v,.int .i64 k,hv s f c g p m] w fun e w'=>e = .returned (.int .i64 (yb xs k s f))∧Below w.heap.size w w':=by
 have B0:Below w.heap.size w (w.alloc (hb s f c g p m)):=(Below.refl _ _).alloc (Nat.le_refl _) _;have s0:w.heap.size≤(w.alloc (hb s f c g p m)).heap.size:=by simp
 have RD:=nI _ v xs ((k:Int)+1) (aa h B0) hl ⟨by omega,by omega⟩;have IY:=zd ha ((k:Int)+1);by_cases h6:f=6
 ·have e:yb xs k s f=if y9 (eP xs ((k:Int)+1))=true then eP xs ((k:Int)+1) else 0:=by simp[yb,h6]
  rw[e];generalize eP xs ((k:Int)+1)=y at *;generalize oB xs ((k:Int)+1)=o at *;have CS:∀W,_:=fun W=>rh y W IY
  subst h6;clear e ha;cases d:y9 y
  ·have E:(if false=true then y else 0)=0:=rfl;rw[E];clear E;go_enter Tryz.func189,Tryz.ntmps189;go_wp2_with fail;generalize (w.alloc (Obj.cells #[.int .i64 s,.int .i64 6,.int .i64 c,.int .i64 g,.bool p,.bool m] 54))=X at *;refine RD.mono ?_;rintro e w1 ⟨rfl,b1⟩;have B1:Hid _:=B0.trans (b1.mono s0);clear b1 RD B0;go_wp2_with (go_at_call 201;refine (CS _).mono ?_;rintro e w2 ⟨rfl,rfl⟩);go_ret;exact⟨rfl,B1⟩
  ·have E:(if true=true then y else 0)=y:=rfl;rw[E];clear E;go_enter Tryz.func189,Tryz.ntmps189;go_wp2_with fail;generalize (w.alloc (Obj.cells #[.int .i64 s,.int .i64 6,.int .i64 c,.int .i64 g,.bool p,.bool m] 54))=X at *;refine RD.mono ?_;rintro e w1 ⟨rfl,b1⟩;have B1:Hid _:=B0.trans (b1.mono s0);clear b1 RD B0;go_wp2_with (go_at_call 201;refine (CS _).mono ?_;rintro e w2 ⟨rfl,rfl⟩);go_ret;exact⟨rfl,B1⟩
 ·have e:yb xs k s f=sz s:=by simp[yb,h6]
  rw[e];clear RD e;go_enter Tryz.func189,Tryz.ntmps189;go_wp2_with (go_at_call 200;refine (zI _ _).mono ?_;rintro e w2 ⟨rfl,rfl⟩);go_ret;exact⟨rfl,B0⟩
theorem Io {xs:List Int} (ha:iO xs) (k:Nat) (s f:Int):I64 (yb xs k s f):=by
 have:=zd ha ((k:Int)+1)
 unfold yb;split
 ·split
  ·exact this
  ·exact⟨by decide,by decide⟩
 ·unfold sz I64;split
  ·rename_i h;have:=gI h;omega
  ·omega
theorem ze {len:Nat} {f n:Int} (h:0≤f∧0≤n∧f+n≤len):oT len f n=true:=by simpa [oT] using h
theorem EI {xs:List Int} {k:Nat} (d:oB xs k=true) (e:(ok (xs.getD k 0) && !uM (xs.getD k 0))=true) :
    chunk xs k=if oT xs.length k (yb xs k (uS (xs.getD k 0)) (uF (xs.getD k 0)))=true∧yb xs k (uS (xs.getD k 0)) (uF (xs.getD k 0))≠0∧(uF (xs.getD k 0)=7→isA (xs.getD (k+1) 0)=true)
     then yb xs k (uS (xs.getD k 0)) (uF (xs.getD k 0)) else 0:=by
 have bs:=cu (xs.getD k 0);have zs:=cD bs.1 bs.2;simp only[oB,Bool.and_eq_true]at d;have hk:=jR d.2;unfold chunk;rw[if_pos e];unfold yb;by_cases h6:uF (xs.getD k 0)=6
 ·rw[if_pos h6,if_pos h6,h6];by_cases hk1:k+1<xs.length
  ·have er:eP xs ((k:Int)+1)=xs.getD (k+1) 0:=by
     have:oB xs ((k:Int)+1)=true:=by simp only[oB,Bool.and_eq_true];exact⟨d.1,by simp[DA];omega⟩
     simp only[eP,this,if_true];congr 1
   rw[er];generalize xs.getD (k+1) 0=y;by_cases hf:dw xs.length k y=true
   ·have hf':=hf;simp only[dw,decide_eq_true_eq]at hf';have hc:y9 y=true:=by simp[y9];omega
    rw[if_pos ⟨hk1,hf⟩,if_pos hc,if_pos];exact⟨ze (by omega),by omega,by omega⟩
   ·rw[if_neg (by simp[hf])];by_cases hc:y9 y=true
    ·rw[if_pos hc,if_neg];rintro⟨h1,h2,_⟩;simp only[dw,decide_eq_true_eq]at hf;simp only[y9,decide_eq_true_eq]at hc;have:=kC h1
     omega
    ·rw[if_neg hc,if_neg (by simp)]
  ·have er:eP xs ((k:Int)+1)=0:=by
     have:oB xs ((k:Int)+1)=false:=by simp[oB,DA];omega
     simp[eP,this]
   rw[er,if_neg (by omega)];simp
 ·rw[if_neg h6,if_neg h6];by_cases hc:(k:Int)+sz (uS (xs.getD k 0))≤xs.length∧(uF (xs.getD k 0)=7→isA (xs.getD (k+1) 0)=true)
  ·rw[if_pos hc,if_pos];exact⟨ze (by omega),by omega,hc.2⟩
  ·rw[if_neg hc,if_neg];rintro⟨h1,_,h3⟩;have:=kC h1
   exact hc ⟨by omega,h3⟩
theorem EJ (xs:List Int) (k:Nat) (s f:Int):yb xs k s f=0∨2≤yb xs k s f:=by
 unfold yb;split
 ·split
  ·rename_i h
   simp only[y9,decide_eq_true_eq]at h;exact .inr h.1
  ·exact .inl rfl
 ·unfold sz;split
  ·rename_i h;have:=gI h;omega
  ·exact .inl rfl
abbrev kh:Value:=.tuple #[cv 0 0 0 0 false false (.slice none 0 0),.bool false]
theorem yd {w:World} {v:Value} {xs:List Int} (h:au w v xs) (hl:xs.length≤1048576) (i:Int) (hi:I64 i) (d:oB xs i=false) :
    Calls Tryz.prog 164 #[v,.int .i64 i] w fun e w'=>e = .returned kh∧Below w.heap.size w w':=by
 have B0:Below w.heap.size w (w.alloc (cb 0 0 0 0 false false (.slice none 0 0))):=(Below.refl _ _).alloc (Nat.le_refl _) _;have T0:=ku w 0 0 0 0 false false (.slice none 0 0);have s0:w.heap.size+1≤(w.alloc (cb 0 0 0 0 false false (.slice none 0 0))).heap.size:=by simp
 have RD:=D1 (aa h B0) hl i hi d;go_enter Tryz.func164,Tryz.ntmps164;go_wp2_with fail;generalize (w.alloc (Obj.cells #[.int .i64 0,.int .i64 0,.int .i64 0,.int .i64 0,.bool false,.bool false,.slice none 0 0] 56))=X at *;refine RD.mono ?_;rintro e w1 ⟨rfl,b1⟩;have s1:=b1.size;have T1:=iQ (ni T0 b1) (hb 0 0 0 0 false false);have B1:=(B0.trans (b1.mono (by omega))).alloc (by omega) (hb 0 0 0 0 false false);obtain⟨t0,t1,t2,t3,t4,t5,t6,tf⟩:=dJ T1;have f0:=tf 0;have f1:=tf 1;have f2:=tf 2;have f3:=tf 3;have f4:=tf 4;have f5:=tf 5;have f6:=tf 6;have T2:Hid _:=iR T1 0 0 0 0 false false (.slice none 0 0);have B2:Hid _:=fL B1 (Nat.le_refl _) 0 0 0 0 false false (.slice none 0 0);clear b1 RD T0 B0 B1 tf T1;go_wp2;exact bodyPost_ret (v:=kh) (dx rfl rfl rfl T2) rfl ⟨rfl,B2⟩
def tU (a:Option Addr) (xs:List Int) (k:Nat):Value:=
 if chunk xs k=0 then kh else .tuple #[cv (uS (xs.getD k 0)) (uF (xs.getD k 0)) (uC (xs.getD k 0)) (uH (xs.getD k 0)) (uP (xs.getD k 0)) (uM (xs.getD k 0)) (piece a k (chunk xs k).toNat),.bool true]
set_option maxHeartbeats 1000000 in
theorem tc {w:World} {a:Option Addr} {cap:Nat} {xs:List Int} (h:au w (.slice a xs.length cap) xs) (hl:xs.length≤1048576) (ha:iO xs) (k:Nat) (d:oB xs k=true) :
    Calls Tryz.prog 164 #[.slice a xs.length cap,.int .i64 k] w fun e w'=>e = .returned (tU a xs k)∧Below w.heap.size w w':=by
 have h':=h;obtain⟨a',cap',e',hlc,hcm,hnil,hc⟩:=h;injection e' with e1 e2 e3
 subst e1 e3
 have hk:k<xs.length:=by
  simp only[oB,Bool.and_eq_true]at d;have:=jR d.2
  omega
 obtain⟨b,off,rfl,lK,hcc⟩:=hc (by omega);have hx:=xY ha hk;have BY:=fun e=>EI (xs:=xs) (k:=k) d e
 have B0:Below w.heap.size w (w.alloc (cb 0 0 0 0 false false (.slice none 0 0))):=(Below.refl _ _).alloc (Nat.le_refl _) _;have T0:=ku w 0 0 0 0 false false (.slice none 0 0);have s0:w.heap.size+1≤(w.alloc (cb 0 0 0 0 false false (.slice none 0 0))).heap.size:=by simp
 have RD:=An (aa h' B0) hl k d hx;have SB:∀(W:World),Below w.heap.size w W→_:=fun W hW=>Ao (aa h' hW) hl ha k (by omega) (uS (xs.getD k 0)) (uF (xs.getD k 0)) (uC (xs.getD k 0)) (uH (xs.getD k 0)) (uP (xs.getD k 0)) (uM (xs.getD k 0))
 have NI:=Io ha k (uS (xs.getD k 0)) (uF (xs.getD k 0));have RES0:Hid (chunk xs k=0→tU (some ⟨b,off,none⟩) xs k=kh):=fun e=>by unfold tU;rw[if_pos e]
 have RES1:Hid (chunk xs k≠0→tU (some ⟨b,off,none⟩) xs k = .tuple #[cv (uS (xs.getD k 0)) (uF (xs.getD k 0)) (uC (xs.getD k 0)) (uH (xs.getD k 0)) (uP (xs.getD k 0)) (uM (xs.getD k 0)) (piece (some ⟨b,off,none⟩) k (chunk xs k).toNat),.bool true]):=fun e=>by unfold tU;rw[if_neg e]
 have N2:=EJ xs k (uS (xs.getD k 0)) (uF (xs.getD k 0));have CH0:(ok (xs.getD k 0) && !uM (xs.getD k 0))=false→chunk xs k=0:=fun e=>by unfold chunk;rw[if_neg (by rw[e];simp)]
 generalize tU (some ⟨b,off,none⟩) xs k=R at *;generalize ho:(ok (xs.getD k 0) && !uM (xs.getD k 0))=o at *;have HCY:Hid (∀j,k+j<xs.length→w.cell? ⟨b,off+k+j,none⟩=some (.int .i64 (xs.getD (k+j) 0))):=fun j hj=>by rw[Nat.add_assoc];exact hcc _ hj
 have HYI:Hid (∀j,k+j<xs.length→I64 (xs.getD (k+j) 0)):=fun j hj=>xY ha hj
 clear hc hcc hnil;generalize yb xs k (uS (xs.getD k 0)) (uF (xs.getD k 0))=n at *;generalize uS (xs.getD k 0)=s at *;generalize uF (xs.getD k 0)=f at *;generalize uC (xs.getD k 0)=c at *;generalize uH (xs.getD k 0)=g at *;generalize uP (xs.getD k 0)=p at *;generalize uM (xs.getD k 0)=m at *;generalize hch:chunk xs k=ch at *;have HBY:Hid _:=BY;have HCH:Hid _:=CH0;clear ho BY CH0 hch;go_enter Tryz.func164,Tryz.ntmps164;go_wp2_with fail;generalize (w.alloc (Obj.cells #[.int .i64 0,.int .i64 0,.int .i64 0,.int .i64 0,.bool false,.bool false,.slice none 0 0] 56))=X at *;refine RD.mono ?_;rintro e w1 ⟨rfl,b1⟩;have s1:=b1.size;have T1:=iQ (ni T0 b1) (hb s f c g p m);have B1:=(B0.trans (b1.mono (by omega))).alloc (by omega) (hb s f c g p m);have N1:=cH w1 s f c g p m;have S1:w1.heap.size+1≤(w1.alloc (hb s f c g p m)).heap.size:=by simp
 clear b1 RD T0 B0;cases o
 ·obtain⟨t0,t1,t2,t3,t4,t5,t6,tf⟩:=dJ T1;have f0:=tf 0;have f1:=tf 1;have f2:=tf 2;have f3:=tf 3;have f4:=tf 4;have f5:=tf 5;have f6:=tf 6;have T2:Hid _:=iR T1 0 0 0 0 false false (.slice none 0 0);have B2:Hid _:=fL B1 (Nat.le_refl _) 0 0 0 0 false false (.slice none 0 0);have ER:Hid _:=RES0.out (HCH.out rfl);clear B1 tf T1 HCH HBY RES0 RES1;go_wp2;refine bodyPost_ret (v:=kh) (dx rfl rfl rfl T2) rfl ⟨?_,B2⟩;rw[ER.out]
 ·have HBY2:Hid _:=HBY.out rfl;clear HBY;obtain⟨n0,n1,n2,n3,n4,n5,nf⟩:=aO N1;go_wp2_with fail;generalize hY:w1.alloc (Obj.cells #[.int .i64 s,.int .i64 f,.int .i64 c,.int .i64 g,.bool p,.bool m] 54)=Y at *;clear hY n0 n1 n2 n3 n4 n5 nf;refine (SB _ B1).mono ?_;clear SB;rintro e w2 ⟨rfl,b2⟩;have s2:=b2.size;have T2:=ni (show lR Y w.heap.size 0 0 0 0 false false (.slice none 0 0) from T1) b2;have N2':=bG (show bK Y w1.heap.size s f c g p m from N1) b2;have B2:=B1.trans (b2.mono (by omega));clear b2 B1 T1 N1;go_wp2_with fail;cases dc:oT xs.length k n
  ·have E0:ch=0:=by rw[HBY2.out,dc];simp
   have ER:Hid _:=RES0.out E0;clear HBY2 HCH RES0 RES1 E0;refine (Cg hlc hcm k n ⟨by omega,by omega⟩ NI dc).mono ?_;rintro e w3 ⟨rfl,hw3⟩;rw[hw3];clear hw3 w3;obtain⟨t0,t1,t2,t3,t4,t5,t6,tf⟩:=dJ T2;have f0:=tf 0;have f1:=tf 1;have f2:=tf 2;have f3:=tf 3;have f4:=tf 4;have f5:=tf 5;have f6:=tf 6;have T3:Hid _:=iR T2 0 0 0 0 false false (.slice none 0 0);have B3:Hid _:=fL B2 (Nat.le_refl _) 0 0 0 0 false false (.slice none 0 0);clear B2 tf T2;go_wp2;refine bodyPost_ret (v:=kh) (dx rfl rfl rfl T3) rfl ⟨?_,B3⟩;rw[ER.out]
  ·obtain⟨c1,c2,c3⟩:=kC dc;obtain⟨N,rfl⟩:=Int.eq_ofNat_of_zero_le c2;refine (nH hlc hcm k N (by omega)).mono ?_;rintro e w3 ⟨rfl,hw3⟩;rw[hw3];clear hw3 w3;by_cases hN:N=0
   ·subst hN;have E0:ch=0:=by rw[HBY2.out];simp
    have ER:Hid _:=RES0.out E0;clear HBY2 HCH RES0 RES1 E0;rw[iV];obtain⟨t0,t1,t2,t3,t4,t5,t6,tf⟩:=dJ T2;have f0:=tf 0;have f1:=tf 1;have f2:=tf 2;have f3:=tf 3;have f4:=tf 4;have f5:=tf 5;have f6:=tf 6;have T3:Hid _:=iR T2 0 0 0 0 false false (.slice none 0 0);have B3:Hid _:=fL B2 (Nat.le_refl _) 0 0 0 0 false false (.slice none 0 0);clear B2 tf T2;go_wp2;refine bodyPost_ret (v:=kh) (dx rfl rfl rfl T3) rfl ⟨?_,B3⟩;rw[ER.out]
   ·have hN2:2≤N:=by omega
    rw[eU b off k N (by omega)];obtain⟨n0,n1,n2,n3,n4,n5,nf⟩:=aO N2';clear nf;have hU:∀W:World,Below w.heap.size w W→W.cell? ⟨b,off+k+1,none⟩=some (.int .i64 (xs.getD (k+1) 0)):=fun W hW=>(hW.cell (p:=⟨b,off+k+1,none⟩) lK).trans (HCY.out 1 (by omega))
    have hyI:=HYI.out 1 (by omega)
    have RES2:Hid (ch=(N:Int)→R = .tuple #[cv s f c g p m (.slice (some ⟨b,off+k,none⟩) N N),.bool true]):=fun e=>by
     rw[RES1.out (by omega),e,Int.toNat_natCast,eU b off k N (by omega)]
    generalize xs.getD (k+1) 0=y at *;have HU:Hid _:=hU;clear hU RES1 HCY HYI;go_wp2_with fail;refine (kx s f c g p m _ _).mono ?_;rintro e w4 ⟨rfl,hw4⟩;have T4:=iQ (iQ T2 (cb s f c g p m (.slice (some ⟨b,off+k,none⟩) N N))) (cb s f c g p m (.slice (some ⟨b,off+k,none⟩) N N));have M4:=iQ (ku w2 s f c g p m (.slice (some ⟨b,off+k,none⟩) N N)) (cb s f c g p m (.slice (some ⟨b,off+k,none⟩) N N));have B4:=(B2.alloc (by omega) (cb s f c g p m (.slice (some ⟨b,off+k,none⟩) N N))).alloc (by simp;omega) (cb s f c g p m (.slice (some ⟨b,off+k,none⟩) N N));rw[←hw4]at T4 M4 B4;clear hw4 T2 N2' B2 n0 n1 n2 n3 n4 n5;have cy:=HU.out _ B4;clear HU;obtain⟨t0,t1,t2,t3,t4,t5,t6,tf⟩:=dJ T4;have f0:=tf 0;have f1:=tf 1;have f2:=tf 2;have f3:=tf 3;have f4:=tf 4;have f5:=tf 5;have f6:=tf 6;obtain⟨m0,m1,m2,m3,m4,m5,m6,mf⟩:=dJ M4;have T5:Hid _:=iR T4 0 0 0 0 false false (.slice none 0 0);have B5:Hid _:=fL B4 (Nat.le_refl _) 0 0 0 0 false false (.slice none 0 0);have T6:Hid _:=iR T4 s f c g p m (.slice (some ⟨b,off+k,none⟩) N N);have B6:Hid _:=fL B4 (Nat.le_refl _) s f c g p m (.slice (some ⟨b,off+k,none⟩) N N);clear tf mf T4 M4 B4;by_cases h7:f=7
    ·subst h7;cases dA:isA y
     ·have ER:Hid _:=RES0.out (show ch=0 by rw[HBY2.out,if_neg];rintro⟨_,_,h3⟩;exact absurd (h3 rfl) (by simp[dA]));clear RES0 RES2 HBY2 HCH T6 B6;go_wp2_with (go_at_call 182;refine (bt _ _ hyI.1 hyI.2).mono ?_;rintro e w5 ⟨rfl,rfl⟩);refine bodyPost_ret (v:=kh) (dx rfl rfl rfl T5) rfl ⟨?_,B5⟩;rw[ER.out]
     ·have ER:Hid _:=RES2.out (show ch=(N:Int) by rw[HBY2.out,if_pos];exact⟨dc,by omega,fun _=>dA⟩);clear RES0 RES2 HBY2 HCH T5 B5;go_wp2_with (go_at_call 182;refine (bt _ _ hyI.1 hyI.2).mono ?_;rintro e w5 ⟨rfl,rfl⟩);refine bodyPost_ret (v:=.tuple #[cv s 7 c g p m (.slice (some ⟨b,off+k,none⟩) N N),.bool true]) (dx rfl rfl rfl T6) rfl ⟨?_,B6⟩;rw[ER.out]
    ·have h7':(f==7)=false:=by simp[h7]
     have ER:Hid _:=RES2.out (show ch=(N:Int) by rw[HBY2.out,if_pos];exact⟨dc,by omega,fun h=>absurd h h7⟩);clear RES0 RES2 HBY2 HCH T5 B5;go_wp2;refine bodyPost_ret (v:=.tuple #[cv s f c g p m (.slice (some ⟨b,off+k,none⟩) N N),.bool true]) (dx rfl rfl rfl T6) rfl ⟨?_,B6⟩;rw[ER.out]
theorem vP (xs:List Int) (k:Nat):((chunk xs k).toNat:Int)=chunk xs k:=Int.toNat_of_nonneg (zb xs k).1
abbrev Pl:=Fin 1001
def pls (ys:List Int):Nat→Nat→List Pl
 |0,_=>[]
 |n+1,k=>if h:k≤1000 then (if chunk ys k=0 then [] else ⟨k,by omega⟩ :: pls ys n (k+(chunk ys k).toNat)) else []
theorem ri {ys:List Int} {k:Nat} (n:Nat) (h:chunk ys k=0):pls ys n k=[]:=by
 cases n with
 |zero=>rfl
 |succ n=>
  unfold pls;by_cases hk:k≤1000
  ·rw[dif_pos hk,if_pos h]
  ·rw[dif_neg hk]
theorem tV {ys:List Int} {k:Nat} (n:Nat) (hk:k<1001) (h:chunk ys k≠0):pls ys (n+1) k=⟨k,hk⟩ :: pls ys n (k+(chunk ys k).toNat):=by
 conv=>lhs;unfold pls
 rw[dif_pos (by omega),if_neg h]
theorem EK (ys:List Int) (hl:ys.length≤1000):∀(n m k:Nat),ys.length-k≤n→ys.length-k≤m→pls ys n k=pls ys m k:=by
 intro n;induction n with
 |zero=>
  intro m k h _;have:=aR ys k
  rw[ri _ (by omega),ri _ (by omega)]
 |succ n ih=>
  intro m k h h';have:=aR ys k
  by_cases h0:chunk ys k=0
  ·rw[ri _ h0,ri _ h0]
  ·obtain⟨m',rfl⟩:∃m',m=m'+1:=⟨m-1,by omega⟩
   rw[tV n (by omega) h0,tV m' (by omega) h0,ih m' _ (by omega) (by omega)]
def plO (ys:List Int) (k:Nat):List Pl:=pls ys (ys.length-k) k
theorem rq {ys:List Int} {k:Nat} (h:chunk ys k=0):plO ys k=[]:=ri _ h
theorem zg {ys:List Int} {k:Nat} (hl:ys.length≤1000) (hk:k<1001) (h:chunk ys k≠0):plO ys k=⟨k,hk⟩ :: plO ys (k+(chunk ys k).toNat):=by
 have:=aR ys k
 unfold plO;obtain⟨m,hm⟩:∃m,ys.length-k=m+1:=⟨ys.length-k-1,by omega⟩
 rw[hm,tV m hk h,EK ys hl m (ys.length-(k+(chunk ys k).toNat)) _ (by omega) (by omega)]
theorem Ap (ys:List Int):∀(n k:Nat),(pls ys n k).length≤n:=by
 intro n;induction n with
 |zero=>intro k;simp[pls]
 |succ n ih=>
  intro k;unfold pls;split
  ·split
   ·simp
   ·have:=ih (k+(chunk ys k).toNat);simp;omega
  ·simp
theorem Aq (ys:List Int) (k:Nat):(plO ys k).length≤ys.length:=Nat.le_trans (Ap ys _ _) (by omega)
def enf (ys:List Int) (e:Int) (l:List Pl):Int:=l.foldl (fun _ x=>(x.val:Int)+chunk ys x.val) e
theorem EL (ys:List Int) (e:Int) (l:List Pl) (x:Pl):enf ys e (l++[x])=(x.val:Int)+chunk ys x.val:=by simp[enf]
theorem EM (ys:List Int) (e:Int) (x:Pl) (l:List Pl):enf ys e (x :: l)=enf ys ((x.val:Int)+chunk ys x.val) l:=rfl
theorem Ar {xs:List Int} {k t:Nat} (hk:k<t) (ht:t≤xs.length):chunk (xs.take t) k=if chunk xs k=0∨(k:Int)+chunk xs k > t then 0 else chunk xs k:=by
 have e0:(xs.take t).getD k 0=xs.getD k 0:=by simp[List.getD_eq_getElem?_getD,hk]
 have e1:k+1<t→(xs.take t).getD (k+1) 0=xs.getD (k+1) 0:=fun h=>by simp[List.getD_eq_getElem?_getD,h]
 have el:(xs.take t).length=t:=by simp;omega
 have bs:=cu (xs.getD k 0);have zs:=cD bs.1 bs.2;unfold chunk;rw[e0,el];by_cases ho:(ok (xs.getD k 0) && !uM (xs.getD k 0))=true
 ·simp only[if_pos ho];by_cases h6:uF (xs.getD k 0)=6
  ·simp only[if_pos h6];by_cases hk1:k+1<t
   ·rw[e1 hk1];have hk2:k+1<xs.length:=by omega
    generalize xs.getD (k+1) 0=y;by_cases hf:dw t k y=true
    ·have hf':=hf;simp only[dw,decide_eq_true_eq]at hf';have hg:dw xs.length k y=true:=by simp only[dw,decide_eq_true_eq];omega
     have L:(if k+1<t∧dw t k y=true then y else 0)=y:=if_pos ⟨hk1,hf⟩;have R:(if k+1<xs.length∧dw xs.length k y=true then y else 0)=y:=if_pos ⟨hk2,hg⟩;rw[L,R,if_neg];omega
    ·have L:(if k+1<t∧dw t k y=true then y else 0)=0:=if_neg (fun h=>hf h.2);simp only[dw,decide_eq_true_eq]at hf;by_cases hg:dw xs.length k y=true
     ·have hg':=hg;simp only[dw,decide_eq_true_eq]at hg';have R:(if k+1<xs.length∧dw xs.length k y=true then y else 0)=y:=if_pos ⟨hk2,hg⟩;rw[L,R,if_pos];omega
     ·have R:(if k+1<xs.length∧dw xs.length k y=true then y else 0)=0:=if_neg (fun h=>hg h.2);rw[L,R,if_pos (.inl rfl)]
   ·generalize (xs.take t).getD (k+1) 0=y';generalize xs.getD (k+1) 0=y;have L:(if k+1<t∧dw t k y'=true then y' else 0)=0:=if_neg (fun h=>hk1 h.1);rw[L];by_cases hg:k+1<xs.length∧dw xs.length k y=true
    ·have hg':=hg.2;simp only[dw,decide_eq_true_eq]at hg';have R:(if k+1<xs.length∧dw xs.length k y=true then y else 0)=y:=if_pos hg;rw[R,if_pos];omega
    ·have R:(if k+1<xs.length∧dw xs.length k y=true then y else 0)=0:=if_neg hg;rw[R,if_pos (.inl rfl)]
  ·simp only[if_neg h6];by_cases hc:(k:Int)+sz (uS (xs.getD k 0))≤t
   ·rw[e1 (by omega)];generalize sz (uS (xs.getD k 0))=z at *;by_cases h7:uF (xs.getD k 0)=7→isA (xs.getD (k+1) 0)=true
    ·have L:(if (k:Int)+z≤t∧(uF (xs.getD k 0)=7→isA (xs.getD (k+1) 0)=true) then z else 0)=z:=if_pos ⟨hc,h7⟩;have R:(if (k:Int)+z≤xs.length∧(uF (xs.getD k 0)=7→isA (xs.getD (k+1) 0)=true) then z else 0)=z:=if_pos ⟨by omega,h7⟩;rw[L,R,if_neg];omega
    ·have L:(if (k:Int)+z≤t∧(uF (xs.getD k 0)=7→isA (xs.getD (k+1) 0)=true) then z else 0)=0:=if_neg (fun h=>h7 h.2);have R:(if (k:Int)+z≤xs.length∧(uF (xs.getD k 0)=7→isA (xs.getD (k+1) 0)=true) then z else 0)=0:=if_neg (fun h=>h7 h.2);rw[L,R,if_pos (.inl rfl)]
   ·generalize sz (uS (xs.getD k 0))=z at *;generalize (xs.take t).getD (k+1) 0=y';have L:(if (k:Int)+z≤t∧(uF (xs.getD k 0)=7→isA y'=true) then z else 0)=0:=if_neg (fun h=>hc h.1);rw[L];by_cases hg:(k:Int)+z≤xs.length∧(uF (xs.getD k 0)=7→isA (xs.getD (k+1) 0)=true)
    ·have R:(if (k:Int)+z≤xs.length∧(uF (xs.getD k 0)=7→isA (xs.getD (k+1) 0)=true) then z else 0)=z:=if_pos hg;rw[R,if_pos];omega
    ·have R:(if (k:Int)+z≤xs.length∧(uF (xs.getD k 0)=7→isA (xs.getD (k+1) 0)=true) then z else 0)=0:=if_neg hg;rw[R,if_pos (.inl rfl)]
 ·simp only[if_neg ho];simp
theorem GC {xs:List Int} {t:Nat} (ht:t≤xs.length) (hm:t≤1000):∀(n k:Nat),t-k≤n→k≤t →
    fV xs k t=if enf (xs.take t) k (plO (xs.take t) k)=t then some ((plO (xs.take t) k).map (fun p=>(p.val:Int))) else none:=by
 have el:(xs.take t).length=t:=by simp;omega
 intro n;induction n with
 |zero=>
  intro k h1 h2;have ek:k=t:=by omega
  subst ek;have:=aR (xs.take k) k
  rw[qZ (by omega),rq (by omega)];simp[enf]
 |succ n ih=>
  intro k h1 h2;by_cases hk:k<t
  ·have ct:=Ar hk ht;by_cases hb:chunk xs k=0∨(k:Int)+chunk xs k > t
   ·rw[if_pos hb]at ct;rw[mN hk hb,rq ct,if_neg];simp[enf];omega
   ·rw[if_neg hb]at ct;have:=aR xs k
    rw[nV hk hb,zg (by omega) (show k<1001 by omega) (by omega),EM,ct,ih _ (by omega) (by omega)];have e:((k:Int)+chunk xs k)=((k+(chunk xs k).toNat:Nat):Int):=by omega
    rw[e];split<;>simp
  ·have ek:k=t:=by omega
   subst ek;have:=aR (xs.take k) k
   rw[qZ hk,rq (by omega)];simp[enf]
end Go.Proofs.YtocidankimefpaaGreatDoor.walks
namespace Go.Proofs.YtocidankimefpaaGreatDoor.walks
open Go.RowKit Go.Shelf rows heads words
attribute [local go_sem] Oper.semAt_some
abbrev encs (a:Option Addr) (ys:List Int) (x:Pl):Array Value:=
 #[.int .i64 (x.val:Int),cv (uS (ys.getD x.val 0)) (uF (ys.getD x.val 0)) (uC (ys.getD x.val 0)) (uH (ys.getD x.val 0)) (uP (ys.getD x.val 0)) (uM (ys.getD x.val 0)) (piece a x.val (chunk ys x.val).toNat)]
def Kc (n₀ Br:Nat) (W W':World):Prop:=Below n₀ W W'∧W'.heap[Br]? = W.heap[Br]? ∧ ∀(b:Nat) (cs:Array Value),W.heap[b]? = some (Obj.cells cs 56 (0,0))→W'.heap[b]? = some (Obj.cells cs 56 (0,0))
theorem JG {n₀ Br:Nat} {A B C:World} (h:Kc n₀ Br A B) (k:Kc n₀ Br B C):Kc n₀ Br A C:=⟨h.1.trans k.1,k.2.1.trans h.2.1,fun b cs e=>k.2.2 b cs (h.2.2 b cs e)⟩
theorem JH {n₀ Br:Nat} {w:World} (hn:n₀≤w.heap.size) (hB:Br<w.heap.size) (W:World) (l:Nat) (o o':Obj) (hl:w.heap.size≤l) (h:W.heap[l]? = some o) (hc:o.isCells=false) (hw:o.isWalk=false):Kc n₀ Br W (W.putObj l o'):=
 ⟨belowK_b hn W l o o' hl h hc hw,World.putObj_heap_other (by omega),fun b cs e=>by
  have hne:b≠l:=fun e'=>by subst e';rw[h]at e;cases e;cases hc
  exact (World.putObj_heap_other hne).trans e⟩
theorem eQ {W W':World} (h:Below W.heap.size W W'):W.grownBy W' none:=⟨h.os,h.tape,h.output,h.size,fun i hi _=>h.block i hi⟩
set_option maxRecDepth 100000 in
set_option maxHeartbeats 4000000 in
theorem As (n:Nat) (hn:2≤n) (l Br Bf n₀ f:Nat) (a:Option Addr) (cap:Nat) (ys:List Int) (hl:ys.length≤1000) (ha:iO ys) (hf:f≤1000) (J Jx:List Pl→World→Prop)
    (hY:∀pre x W,J pre W→pre.length<(plO ys f).length→YieldAt Fence.wide (n-1) Tryz.prog l (encs a ys x) W fun e W'=>
     (e = .returned (.bool true)∧J (pre++[x]) W'∧Kc n₀ Br W W')∨(e = .returned (.bool false)∧Jx (pre++[x]) W'))
    (W0:World) (hJ:AbidesFrom W0.heap.size J) (hBr:Boxed W0 Br 22 (.slice a ys.length cap)) (hBf:W0.cell? ⟨Bf,0,none⟩=some (.int .i64 f)) (hI:∀W,Below n₀ W0 W→au W (.slice a ys.length cap) ys) (h0:J [] W0) (hn₀:n₀≤W0.heap.size) :
    CallsIn Fence.wide n Tryz.prog 187 #[.func (.yield l) #[] #[],.pointer (some ⟨Bf,0,none⟩),.pointer (some ⟨Br,0,none⟩)] W0 fun e W'=>(∃v,e = .returned v) ∧
     ((∃zs,zs=plO ys f∧J zs W')∨(∃pre,pre <+: plO ys f∧Jx pre W')):=by
 refine callsIn_of_wp Tryz.func187 rfl trivial ?_ rfl;simp only[Tryz.ntmps187,List.size_toArray,List.length_cons,List.length_nil,Nat.reduceAdd,Nat.reduceSub,Array.replicate_succ,Array.replicate_zero,List.push_toArray,List.append_toArray,List.nil_append,List.cons_append];gi_wp2
 gi_loopw [4] (fun p wr=>∃(pre:List Pl) (k:Nat),p = .int .i64 (k:Int)∧k≤1000∧plO ys f=pre++plO ys k∧J pre wr∧Below n₀ W0 wr∧Boxed wr Br 22 (.slice a ys.length cap))
  (fun p _=>1001-(intOf p).toNat)
 case atStart=>
  exact⟨[],f,rfl,hf,rfl,h0,Below.refl _ _,hBr⟩
 case round=>
  obtain⟨pre,k,rfl,hk,hL,hJs,hB,bR⟩:=hrel;have cR:=bR.cell;have h1:1≤n:=by omega
  cases d:oB ys k
  ·have e0:chunk ys k=0:=by
     have:=aR ys k
     simp[oB,jl,DA]at d;omega
   have C:=callsIn_wide (n:=n-1).2 (yd (hI wr hB) (by omega) k ⟨by omega,by omega⟩ d);clear hY hI;gi_wp2_with fail
   refine⟨trivial,C.mono ?_⟩
   rintro e w1 ⟨rfl,b1⟩;have hJ1:=hJ pre wr _ none hJs (eQ (b1.alloc b1.size (cb 0 0 0 0 false false (.slice none 0 0)))) (fun _ e=>by cases e);have HE:Hid _:=hJ1;clear b1 C hJ1 hJ hJs;gi_wp2
   refine⟨fun _ h=>(by cases h),?_⟩
   gi_wp2
   refine bodyPost_ret (results_none rfl _ _ _) rfl ?_;exact⟨⟨_,rfl⟩,.inl ⟨pre,by rw[hL,rq e0,List.append_nil],HE⟩⟩
  ·have C:=callsIn_wide (n:=n-1).2 (tc (hI wr hB) (by omega) ha k d);unfold tU at C;by_cases e0:chunk ys k=0
   ·rw[if_pos e0]at C;clear hY hI;gi_wp2_with fail
    refine⟨trivial,C.mono ?_⟩
    rintro e w1 ⟨rfl,b1⟩;have hJ1:=hJ pre wr _ none hJs (eQ (b1.alloc b1.size (cb 0 0 0 0 false false (.slice none 0 0)))) (fun _ e=>by cases e);have HE:Hid _:=hJ1;clear b1 C hJ1 hJ hJs;gi_wp2
    refine⟨fun _ h=>(by cases h),?_⟩
    gi_wp2
    refine bodyPost_ret (results_none rfl _ _ _) rfl ?_;exact⟨⟨_,rfl⟩,.inl ⟨pre,by rw[hL,rq e0,List.append_nil],HE⟩⟩
   ·rw[if_neg e0]at C;have hpl:=zg hl (show k<1001 by omega) e0;have hlt:pre.length<(plO ys f).length:=by rw[hL,hpl];simp
    have hY1:=fun W hW=>hY pre ⟨k,by omega⟩ W hW hlt
    have cn:=vP ys k;have cb2:=aR ys k;have hL2:plO ys f=(pre++[⟨k,by omega⟩])++plO ys (k+(chunk ys k).toNat):=by rw[hL,hpl];simp
    simp only[encs]at hY1;rw[hpl]at hL;unfold piece at hY1 C;generalize hN:(chunk ys k).toNat=N at *;have hNk:k+N≤1000:=by omega
    have hN2:2≤N:=by omega
    clear hY cn cb2 e0 hN;generalize uS (ys.getD k 0)=s at *;generalize uF (ys.getD k 0)=ff at *;generalize uC (ys.getD k 0)=c at *;generalize uH (ys.getD k 0)=g at *;generalize uP (ys.getD k 0)=p at *;generalize uM (ys.getD k 0)=m at *;generalize (if N=0 then a else Option.map (fun x=>x.add k) a)=ad at *;gi_wp2_with fail
    refine⟨trivial,C.mono ?_⟩
    rintro e w1 ⟨rfl,b1⟩;have hJ1:=hJ pre wr _ none hJs (eQ (b1.alloc b1.size (cb s ff c g p m (.slice ad N N)))) (fun _ e=>by cases e);have HB1:=(hB.trans (b1.mono (Nat.le_trans hn₀ hB.size))).alloc (Nat.le_trans (Nat.le_trans hn₀ hB.size) b1.size) (cb s ff c g p m (.slice ad N N));have bR1:Boxed (w1.alloc (cb s ff c g p m (.slice ad N N))) Br 22 (.slice a ys.length cap):=bR.kept (eQ (b1.alloc b1.size (cb s ff c g p m (.slice ad N N)))) (by simp);have M1:=ku w1 s ff c g p m (.slice ad N N);obtain⟨fn,tmps,assign,body,hy,hR⟩:=hY1 _ hJ1;have HB:Hid _:=HB1;have HBX:Hid _:=bR1;have HM:Hid _:=M1;have HJ:Hid _:=hJ;clear b1 C hJs hB bR cR hY1 hJ1 HB1 bR1 M1 hJ;gi_wp2
    refine hR.mono ?_;rintro e W3 (⟨rfl,hJ3,hk3⟩|⟨rfl,hJx3⟩)
    ·have M3:lR W3 w1.heap.size s ff c g p m (.slice ad N N):=hk3.2.2 _ _ HM.out;have HB3:Hid _:=HB.out.trans hk3.1;have HR3:Hid (Boxed W3 Br 22 (.slice a ys.length cap)):=hk3.2.1.trans HBX.out;have HJ4:Hid _:=HJ.out _ W3 _ none hJ3 (eQ ((Below.refl _ W3).alloc (Nat.le_refl _) (cb s ff c g p m (.slice ad N N)))) (fun _ e=>by cases e);have HB4:Hid _:=HB3.out.alloc (Nat.le_trans hn₀ HB3.out.size) (cb s ff c g p m (.slice ad N N));have HR4:Hid _:=HR3.out.alloc (cb s ff c g p m (.slice ad N N));obtain⟨m0,m1,m2,m3,m4,m5,m6,mf⟩:=dJ M3;clear HB HBX HM hR hy M3 hk3 hJ3 mf HJ HB3 HR3;gi_wp2_with fail
     refine⟨trivial,(callsIn_wide.2 (yD s ff c g p m ad N N W3)).mono ?_⟩
     rintro e W4 ⟨rfl,rfl⟩;gi_wp2
     go_roundw;case rel=>exact⟨_,k+N,by go_num,hNk,hL2,HJ4,HB4,HR4⟩
     case measure=>simp[intOf];omega
    ·gi_wp2
     refine bodyPost_ret (results_none rfl _ _ _) rfl ?_;exact⟨⟨_,rfl⟩,.inr ⟨_,⟨plO ys (k+N),hL2.symm⟩,hJx3⟩⟩
theorem At (a:Option Addr) (len cap:Nat) (f:Int) (w:World) :
    Calls Tryz.prog 163 #[.slice a len cap,.int .i64 f] w fun e w'=>e = .returned (.func (.func 187) #[] #[.pointer (some ⟨w.heap.size+1,0,none⟩),.pointer (some ⟨w.heap.size,0,none⟩)])∧w'=(w.alloc (.cells #[.slice a len cap] 22)).alloc (.cells #[.int .i64 f] 2):=by
 go_enter Tryz.func163,Tryz.ntmps163;go_wp2;go_ret;exact⟨rfl,rfl⟩
theorem vQ (n:Nat) (hn:2≤n) (Br Bf n₀ f:Nat) (a:Option Addr) (cap:Nat) (ys:List Int) (hl:ys.length≤1000) (ha:iO ys) (hf:f≤1000) (w:World) (h1:Br<w.heap.size) (h2:Bf<w.heap.size) (hn₀:n₀≤w.heap.size)
    (hBr:Boxed w Br 22 (.slice a ys.length cap)) (hBf:w.cell? ⟨Bf,0,none⟩=some (.int .i64 f)) (hI:∀W,Below n₀ w W→au W (.slice a ys.length cap) ys) :
    SeqStopsK Fence.wide n Tryz.prog 187 #[.pointer (some ⟨Bf,0,none⟩),.pointer (some ⟨Br,0,none⟩)] (encs a ys) (Kc n₀ Br) (fun zs=>zs=plO ys f) (fun pre=>pre <+: plO ys f) (plO ys f).length w:=fun l J Jx W hW hJ _ hY h0=>
 As n hn l Br Bf n₀ f a cap ys hl ha hf J Jx hY W hJ ((hW.block Br h1).trans hBr) ((hW.cell (p:=⟨Bf,0,none⟩) h2).trans hBf) (fun W' hW'=>hI W' ((hW.mono hn₀).trans hW')) h0 (Nat.le_trans hn₀ hW.size)
end Go.Proofs.YtocidankimefpaaGreatDoor.walks
