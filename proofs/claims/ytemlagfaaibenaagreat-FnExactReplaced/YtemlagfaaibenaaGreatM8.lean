/-
  Chapter 9: a new heap; by the specification and by the program. Chapter 9: a new heap, where its numbers are right; by the specification. Chapter 9: what the program's NewHeap leans on: even numbers within bounds, a row of six words. The places that the program's chunks hands out, as a list; a walk 
-/
import Derived.Test.YtemlagfaaibenaaGreatM4
import Derived.Test.YtemlagfaaibenaaGreatM3
import Derived.Test.YtemlagfaaibenaaGreatM7
import Derived.Deep.Upon
import Derived.Lib.Hide
import Derived.Maps.AppendAt
import Derived.Test.YtemlagfaaibenaaGreatM2
import Derived.Deep.RegionLaw
import Derived.RangeFuncNested
import Derived.RangeFuncCalls
import Derived.RangeFuncLeaves
import Derived.Shelf.Abstract
import Derived.WalkKit
import Derived.OwnWalkIn
import Derived.TacticsInMore
import Derived.LoopNIn
import Derived.LoopIn
namespace Go.Proofs.YtemlagfaaibenaaGreat.hp
open Go.RowKit rows heads words walks
set_option maxRecDepth 100000
set_option linter.unusedVariables false
set_option linter.unusedSimpArgs false
def evn (lo hi x:Int):Bool:=inR lo hi x&&decide (x % 2=0)
def hp0:Hp:=⟨0,0,[],0,0,[],[],[],0⟩
theorem inR_true {lo hi x:Int} (h:inR lo hi x=true):lo≤x∧x≤hi:=by simpa [inR] using h
theorem inR_false {lo hi x:Int} (h:inR lo hi x=false):¬(lo≤x∧x≤hi):=by simpa [inR] using h
theorem evn_true {lo hi x:Int} (h:evn lo hi x=true):lo≤x∧x≤hi∧x % 2=0:=by
 simp only[evn,Bool.and_eq_true,decide_eq_true_eq]at h
 exact⟨(inR_true h.1).1,(inR_true h.1).2,h.2⟩
set_option maxHeartbeats 2000000 in
theorem evenWithin_any (x lo hi:Int) (hlo:0≤lo) (w:World) :
    Calls Tryz.prog 135 #[.int .i64 x,.int .i64 lo,.int .i64 hi] w fun e w'=>e = .returned (.bool (evn lo hi x))∧w'=w:=by
 by_cases h1:lo≤x
 ·by_cases h2:x≤hi
  ·by_cases h3:x % 2=0
   ·have e:evn lo hi x=true:=by simp[evn,inR,h1,h2,h3]
    rw[e]
    have m1:(x.tmod 2==0)=true:=by rw[Int.tmod_eq_emod_of_nonneg (by omega),h3];rfl
    have m2:(x % 2==0)=true:=by rw[h3];rfl
    clear e h3
    go_enter Tryz.func135,Tryz.ntmps135
    go_wp2
    go_ret
    exact⟨rfl,rfl⟩
   ·have h3':x % 2=1:=by omega
    have e:evn lo hi x=false:=by simp[evn,inR,h1,h2,h3']
    rw[e]
    have m1:(x.tmod 2==0)=false:=by rw[Int.tmod_eq_emod_of_nonneg (by omega),h3'];rfl
    have m2:(x % 2==0)=false:=by rw[h3'];rfl
    clear e h3 h3'
    go_enter Tryz.func135,Tryz.ntmps135
    go_wp2
    go_ret
    exact⟨rfl,rfl⟩
  ·have e:evn lo hi x=false:=by simp[evn,inR,h2]
   rw[e]
   clear e
   go_enter Tryz.func135,Tryz.ntmps135
   go_wp2
   go_ret
   exact⟨rfl,rfl⟩
 ·have e:evn lo hi x=false:=by simp[evn,inR,h1]
  rw[e]
  clear e
  go_enter Tryz.func135,Tryz.ntmps135
  go_wp2
  go_ret
  exact⟨rfl,rfl⟩
theorem sizesOk_any (x y:Int) (w:World) :
    Calls Tryz.prog 115 #[.int .i64 x,.int .i64 y] w fun e w'=>e = .returned (.bool (evn 8 200 x&&evn 8 400 y))∧w'=w:=by
 have E1:=evenWithin_any x 8 200 (by decide)
 have E2:=evenWithin_any y 8 400 (by decide)
 cases d:evn 8 200 x
 ·rw[d]at E1
  go_enter Tryz.func115,Tryz.ntmps115
  go_wp2_with (go_at_call 135;refine (E1 _).mono ?_;clear E1;rintro e w3 ⟨rfl,hw3⟩;rw[hw3];clear hw3 w3)
  go_ret
  exact⟨rfl,rfl⟩
 ·rw[d]at E1
  go_enter Tryz.func115,Tryz.ntmps115
  go_wp2_with (first
   |(have hh:=E1;clear hh;go_at_call 135;refine (E1 _).mono ?_;clear E1;rintro e w3 ⟨rfl,hw3⟩;rw[hw3];clear hw3 w3)
   |(have hh:=E2;clear hh;go_at_call 135;refine (E2 _).mono ?_;clear E2;rintro e w3 ⟨rfl,hw3⟩;rw[hw3];clear hw3 w3))
  go_ret
  exact⟨rfl,rfl⟩
theorem rowLength_any (X Y L:Nat) (hL:2*X+Y=L) (hm:L≤1048576) (w:World) :
    Calls Tryz.prog 70 #[.int .i64 (X:Int),.int .i64 (Y:Int)] w fun e w'=>e = .returned (.int .i64 (L:Int))∧w'=w:=by
 have b1:X≤1048576:=by omega
 have b2:Y≤1048576:=by omega
 have HL:Hid _:=hL
 clear hL
 go_enter Tryz.func70,Tryz.ntmps70
 go_wp2
 go_ret
 exact⟨by rw[←HL.out];go_num,rfl⟩
end Go.Proofs.YtemlagfaaibenaaGreat.hp
namespace Go.Proofs.YtemlagfaaibenaaGreat.walks
open Go.RowKit rows heads words
abbrev Pl:=Fin 1001
def pls (ys:List Int):Nat→Nat→List Pl
 |0,_=>[]
 |n+1,k=>if h:k≤1000 then (if chunk ys k=0 then [] else ⟨k,by omega⟩ :: pls ys n (k+(chunk ys k).toNat)) else []
theorem pls_end {ys:List Int} {k:Nat} (n:Nat) (h:chunk ys k=0):pls ys n k=[]:=by
 cases n with
 |zero=>rfl
 |succ n=>
  unfold pls
  by_cases hk:k≤1000
  ·rw[dif_pos hk,if_pos h]
  ·rw[dif_neg hk]
theorem pls_step {ys:List Int} {k:Nat} (n:Nat) (hk:k<1001) (h:chunk ys k≠0):pls ys (n+1) k=⟨k,hk⟩ :: pls ys n (k+(chunk ys k).toNat):=by
 conv=>lhs;unfold pls
 rw[dif_pos (by omega),if_neg h]
theorem pls_more (ys:List Int) (hl:ys.length≤1000):∀(n m k:Nat),ys.length-k≤n→ys.length-k≤m→pls ys n k=pls ys m k:=by
 intro n
 induction n with
 |zero=>
  intro m k h _
  have:=chunk_bounds ys k
  rw[pls_end _ (by omega),pls_end _ (by omega)]
 |succ n ih=>
  intro m k h h'
  have:=chunk_bounds ys k
  by_cases h0:chunk ys k=0
  ·rw[pls_end _ h0,pls_end _ h0]
  ·obtain⟨m',rfl⟩:∃m',m=m'+1:=⟨m-1,by omega⟩
   rw[pls_step n (by omega) h0,pls_step m' (by omega) h0,ih m' _ (by omega) (by omega)]
def plO (ys:List Int) (k:Nat):List Pl:=pls ys (ys.length-k) k
theorem plO_end {ys:List Int} {k:Nat} (h:chunk ys k=0):plO ys k=[]:=pls_end _ h
theorem plO_step {ys:List Int} {k:Nat} (hl:ys.length≤1000) (hk:k<1001) (h:chunk ys k≠0):plO ys k=⟨k,hk⟩ :: plO ys (k+(chunk ys k).toNat):=by
 have:=chunk_bounds ys k
 unfold plO
 obtain⟨m,hm⟩:∃m,ys.length-k=m+1:=⟨ys.length-k-1,by omega⟩
 rw[hm,pls_step m hk h,pls_more ys hl m (ys.length-(k+(chunk ys k).toNat)) _ (by omega) (by omega)]
theorem pls_length (ys:List Int):∀(n k:Nat),(pls ys n k).length≤n:=by
 intro n
 induction n with
 |zero=>intro k;simp[pls]
 |succ n ih=>
  intro k
  unfold pls
  split
  ·split
   ·simp
   ·have:=ih (k+(chunk ys k).toNat);simp;omega
  ·simp
theorem plO_length (ys:List Int) (k:Nat):(plO ys k).length≤ys.length:=Nat.le_trans (pls_length ys _ _) (by omega)
def enf (ys:List Int) (e:Int) (l:List Pl):Int:=l.foldl (fun _ x=>(x.val:Int)+chunk ys x.val) e
theorem enf_snoc (ys:List Int) (e:Int) (l:List Pl) (x:Pl):enf ys e (l++[x])=(x.val:Int)+chunk ys x.val:=by simp[enf]
theorem enf_cons (ys:List Int) (e:Int) (x:Pl) (l:List Pl):enf ys e (x :: l)=enf ys ((x.val:Int)+chunk ys x.val) l:=rfl
theorem chunk_take {xs:List Int} {k t:Nat} (hk:k<t) (ht:t≤xs.length):chunk (xs.take t) k=if chunk xs k=0∨(k:Int)+chunk xs k > t then 0 else chunk xs k:=by
 have e0:(xs.take t).getD k 0=xs.getD k 0:=by simp[List.getD_eq_getElem?_getD,hk]
 have e1:k+1<t→(xs.take t).getD (k+1) 0=xs.getD (k+1) 0:=fun h=>by simp[List.getD_eq_getElem?_getD,h]
 have el:(xs.take t).length=t:=by simp;omega
 have bs:=uS_bounds (xs.getD k 0)
 have zs:=sz_bounds bs.1 bs.2
 unfold chunk
 rw[e0,el]
 by_cases ho:(ok (xs.getD k 0) && !uM (xs.getD k 0))=true
 ·simp only[if_pos ho]
  by_cases h6:uF (xs.getD k 0)=6
  ·simp only[if_pos h6]
   by_cases hk1:k+1<t
   ·rw[e1 hk1]
    have hk2:k+1<xs.length:=by omega
    generalize xs.getD (k+1) 0=y
    by_cases hf:freeOk t k y=true
    ·have hf':=hf
     simp only[freeOk,decide_eq_true_eq]at hf'
     have hg:freeOk xs.length k y=true:=by simp only[freeOk,decide_eq_true_eq];omega
     have L:(if k+1<t∧freeOk t k y=true then y else 0)=y:=if_pos ⟨hk1,hf⟩
     have R:(if k+1<xs.length∧freeOk xs.length k y=true then y else 0)=y:=if_pos ⟨hk2,hg⟩
     rw[L,R,if_neg]
     omega
    ·have L:(if k+1<t∧freeOk t k y=true then y else 0)=0:=if_neg (fun h=>hf h.2)
     simp only[freeOk,decide_eq_true_eq]at hf
     by_cases hg:freeOk xs.length k y=true
     ·have hg':=hg
      simp only[freeOk,decide_eq_true_eq]at hg'
      have R:(if k+1<xs.length∧freeOk xs.length k y=true then y else 0)=y:=if_pos ⟨hk2,hg⟩
      rw[L,R,if_pos]
      omega
     ·have R:(if k+1<xs.length∧freeOk xs.length k y=true then y else 0)=0:=if_neg (fun h=>hg h.2)
      rw[L,R,if_pos (.inl rfl)]
   ·generalize (xs.take t).getD (k+1) 0=y'
    generalize xs.getD (k+1) 0=y
    have L:(if k+1<t∧freeOk t k y'=true then y' else 0)=0:=if_neg (fun h=>hk1 h.1)
    rw[L]
    by_cases hg:k+1<xs.length∧freeOk xs.length k y=true
    ·have hg':=hg.2
     simp only[freeOk,decide_eq_true_eq]at hg'
     have R:(if k+1<xs.length∧freeOk xs.length k y=true then y else 0)=y:=if_pos hg
     rw[R,if_pos]
     omega
    ·have R:(if k+1<xs.length∧freeOk xs.length k y=true then y else 0)=0:=if_neg hg
     rw[R,if_pos (.inl rfl)]
  ·simp only[if_neg h6]
   by_cases hc:(k:Int)+sz (uS (xs.getD k 0))≤t
   ·rw[e1 (by omega)]
    generalize sz (uS (xs.getD k 0))=z at *
    by_cases h7:uF (xs.getD k 0)=7→isA (xs.getD (k+1) 0)=true
    ·have L:(if (k:Int)+z≤t∧(uF (xs.getD k 0)=7→isA (xs.getD (k+1) 0)=true) then z else 0)=z:=if_pos ⟨hc,h7⟩
     have R:(if (k:Int)+z≤xs.length∧(uF (xs.getD k 0)=7→isA (xs.getD (k+1) 0)=true) then z else 0)=z:=if_pos ⟨by omega,h7⟩
     rw[L,R,if_neg]
     omega
    ·have L:(if (k:Int)+z≤t∧(uF (xs.getD k 0)=7→isA (xs.getD (k+1) 0)=true) then z else 0)=0:=if_neg (fun h=>h7 h.2)
     have R:(if (k:Int)+z≤xs.length∧(uF (xs.getD k 0)=7→isA (xs.getD (k+1) 0)=true) then z else 0)=0:=if_neg (fun h=>h7 h.2)
     rw[L,R,if_pos (.inl rfl)]
   ·generalize sz (uS (xs.getD k 0))=z at *
    generalize (xs.take t).getD (k+1) 0=y'
    have L:(if (k:Int)+z≤t∧(uF (xs.getD k 0)=7→isA y'=true) then z else 0)=0:=if_neg (fun h=>hc h.1)
    rw[L]
    by_cases hg:(k:Int)+z≤xs.length∧(uF (xs.getD k 0)=7→isA (xs.getD (k+1) 0)=true)
    ·have R:(if (k:Int)+z≤xs.length∧(uF (xs.getD k 0)=7→isA (xs.getD (k+1) 0)=true) then z else 0)=z:=if_pos hg
     rw[R,if_pos]
     omega
    ·have R:(if (k:Int)+z≤xs.length∧(uF (xs.getD k 0)=7→isA (xs.getD (k+1) 0)=true) then z else 0)=0:=if_neg hg
     rw[R,if_pos (.inl rfl)]
 ·simp only[if_neg ho];simp
theorem walk_by {xs:List Int} {t:Nat} (ht:t≤xs.length) (hm:t≤1000):∀(n k:Nat),t-k≤n→k≤t →
    walkO xs k t=if enf (xs.take t) k (plO (xs.take t) k)=t then some ((plO (xs.take t) k).map (fun p=>(p.val:Int))) else none:=by
 have el:(xs.take t).length=t:=by simp;omega
 intro n
 induction n with
 |zero=>
  intro k h1 h2
  have ek:k=t:=by omega
  subst ek
  have:=chunk_bounds (xs.take k) k
  rw[walkO_end (by omega),plO_end (by omega)]
  simp[enf]
 |succ n ih=>
  intro k h1 h2
  by_cases hk:k<t
  ·have ct:=chunk_take hk ht
   by_cases hb:chunk xs k=0∨(k:Int)+chunk xs k > t
   ·rw[if_pos hb]at ct
    rw[walkO_bad hk hb,plO_end ct,if_neg]
    simp[enf];omega
   ·rw[if_neg hb]at ct
    have:=chunk_bounds xs k
    rw[walkO_step hk hb,plO_step (by omega) (show k<1001 by omega) (by omega),enf_cons,ct,ih _ (by omega) (by omega)]
    have e:((k:Int)+chunk xs k)=((k+(chunk xs k).toNat:Nat):Int):=by omega
    rw[e]
    split<;>simp
  ·have ek:k=t:=by omega
   subst ek
   have:=chunk_bounds (xs.take k) k
   rw[walkO_end hk,plO_end (by omega)]
   simp[enf]
end Go.Proofs.YtemlagfaaibenaaGreat.walks
namespace Go.Proofs.YtemlagfaaibenaaGreat.walks
open Go.RowKit Go.Shelf rows heads words
attribute [local go_sem] Oper.semAt_some
abbrev encs (a:Option Addr) (ys:List Int) (x:Pl):Array Value:=
 #[.int .i64 (x.val:Int),cv (uS (ys.getD x.val 0)) (uF (ys.getD x.val 0)) (uC (ys.getD x.val 0)) (uH (ys.getD x.val 0)) (uP (ys.getD x.val 0)) (uM (ys.getD x.val 0)) (piece a x.val (chunk ys x.val).toNat)]
def Kc (n₀ Br:Nat) (W W':World):Prop:=Below n₀ W W'∧W'.heap[Br]? = W.heap[Br]? ∧ ∀(b:Nat) (cs:Array Value),W.heap[b]? = some (Obj.cells cs 44 (0,0))→W'.heap[b]? = some (Obj.cells cs 44 (0,0))
theorem kc_t {n₀ Br:Nat} {A B C:World} (h:Kc n₀ Br A B) (k:Kc n₀ Br B C):Kc n₀ Br A C:=⟨h.1.trans k.1,k.2.1.trans h.2.1,fun b cs e=>k.2.2 b cs (h.2.2 b cs e)⟩
theorem kc_b {n₀ Br:Nat} {w:World} (hn:n₀≤w.heap.size) (hB:Br<w.heap.size) (W:World) (l:Nat) (o o':Obj) (hl:w.heap.size≤l) (h:W.heap[l]? = some o) (hc:o.isCells=false) (hw:o.isWalk=false):Kc n₀ Br W (W.putObj l o'):=
 ⟨belowK_b hn W l o o' hl h hc hw,World.putObj_heap_other (by omega),fun b cs e=>by
  have hne:b≠l:=fun e'=>by subst e';rw[h]at e;cases e;cases hc
  exact (World.putObj_heap_other hne).trans e⟩
theorem grown_of_below {W W':World} (h:Below W.heap.size W W'):W.grownBy W' none:=⟨h.os,h.tape,h.output,h.size,fun i hi _=>h.block i hi⟩
set_option maxRecDepth 100000 in
set_option maxHeartbeats 4000000 in
theorem chunks1_in (n:Nat) (hn:2≤n) (l Br Bf n₀ f:Nat) (a:Option Addr) (cap:Nat) (ys:List Int) (hl:ys.length≤1000) (ha:AllI ys) (hf:f≤1000) (J Jx:List Pl→World→Prop)
    (hY:∀pre x W,J pre W→pre.length<(plO ys f).length→YieldAt Fence.wide (n-1) Tryz.prog l (encs a ys x) W fun e W'=>
     (e = .returned (.bool true)∧J (pre++[x]) W'∧Kc n₀ Br W W')∨(e = .returned (.bool false)∧Jx (pre++[x]) W'))
    (W0:World) (hJ:AbidesFrom W0.heap.size J) (hBr:Boxed W0 Br 22 (.slice a ys.length cap)) (hBf:W0.cell? ⟨Bf,0,none⟩=some (.int .i64 f)) (hI:∀W,Below n₀ W0 W→IntsAt W (.slice a ys.length cap) ys) (h0:J [] W0) (hn₀:n₀≤W0.heap.size) :
    CallsIn Fence.wide n Tryz.prog 150 #[.func (.yield l) #[] #[],.pointer (some ⟨Bf,0,none⟩),.pointer (some ⟨Br,0,none⟩)] W0 fun e W'=>(∃v,e = .returned v) ∧
     ((∃zs,zs=plO ys f∧J zs W')∨(∃pre,pre <+: plO ys f∧Jx pre W')):=by
 refine callsIn_of_wp Tryz.func150 rfl trivial ?_ rfl
 simp only[Tryz.ntmps150,List.size_toArray,List.length_cons,List.length_nil,Nat.reduceAdd,Nat.reduceSub,Array.replicate_succ,Array.replicate_zero,List.push_toArray,List.append_toArray,List.nil_append,List.cons_append]
 gi_wp2
 gi_loopw [4] (fun p wr=>∃(pre:List Pl) (k:Nat),p = .int .i64 (k:Int)∧k≤1000∧plO ys f=pre++plO ys k∧J pre wr∧Below n₀ W0 wr∧Boxed wr Br 22 (.slice a ys.length cap))
  (fun p _=>1001-(intOf p).toNat)
 case atStart=>
  exact⟨[],f,rfl,hf,rfl,h0,Below.refl _ _,hBr⟩
 case round=>
  obtain⟨pre,k,rfl,hk,hL,hJs,hB,bR⟩:=hrel
  have cR:=bR.cell
  have h1:1≤n:=by omega
  cases d:okAt ys k
  ·have e0:chunk ys k=0:=by
     have:=chunk_bounds ys k
     simp[okAt,rowOk,atOk]at d
     omega
   have C:=callsIn_wide (n:=n-1).2 (chunkOf_out (hI wr hB) (by omega) k ⟨by omega,by omega⟩ d)
   clear hY hI
   gi_wp2_with fail
   refine⟨trivial,C.mono ?_⟩
   rintro e w1 ⟨rfl,b1⟩
   have hJ1:=hJ pre wr _ none hJs (grown_of_below (b1.alloc b1.size (cb 0 0 0 0 false false (.slice none 0 0)))) (fun _ e=>by cases e)
   have HE:Hid _:=hJ1
   clear b1 C hJ1 hJ hJs
   gi_wp2
   refine⟨fun _ h=>(by cases h),?_⟩
   gi_wp2
   refine bodyPost_ret (results_none rfl _ _ _) rfl ?_
   exact⟨⟨_,rfl⟩,.inl ⟨pre,by rw[hL,plO_end e0,List.append_nil],HE⟩⟩
  ·have C:=callsIn_wide (n:=n-1).2 (chunkOf_in (hI wr hB) (by omega) ha k d)
   unfold chRes at C
   by_cases e0:chunk ys k=0
   ·rw[if_pos e0]at C
    clear hY hI
    gi_wp2_with fail
    refine⟨trivial,C.mono ?_⟩
    rintro e w1 ⟨rfl,b1⟩
    have hJ1:=hJ pre wr _ none hJs (grown_of_below (b1.alloc b1.size (cb 0 0 0 0 false false (.slice none 0 0)))) (fun _ e=>by cases e)
    have HE:Hid _:=hJ1
    clear b1 C hJ1 hJ hJs
    gi_wp2
    refine⟨fun _ h=>(by cases h),?_⟩
    gi_wp2
    refine bodyPost_ret (results_none rfl _ _ _) rfl ?_
    exact⟨⟨_,rfl⟩,.inl ⟨pre,by rw[hL,plO_end e0,List.append_nil],HE⟩⟩
   ·rw[if_neg e0]at C
    have hpl:=plO_step hl (show k<1001 by omega) e0
    have hlt:pre.length<(plO ys f).length:=by rw[hL,hpl];simp
    have hY1:=fun W hW=>hY pre ⟨k,by omega⟩ W hW hlt
    have cn:=chunk_nat ys k
    have cb2:=chunk_bounds ys k
    have hL2:plO ys f=(pre++[⟨k,by omega⟩])++plO ys (k+(chunk ys k).toNat):=by rw[hL,hpl];simp
    simp only[encs]at hY1
    rw[hpl]at hL
    unfold piece at hY1 C
    generalize hN:(chunk ys k).toNat=N at *
    have hNk:k+N≤1000:=by omega
    have hN2:2≤N:=by omega
    clear hY cn cb2 e0 hN
    generalize uS (ys.getD k 0)=s at *
    generalize uF (ys.getD k 0)=ff at *
    generalize uC (ys.getD k 0)=c at *
    generalize uH (ys.getD k 0)=g at *
    generalize uP (ys.getD k 0)=p at *
    generalize uM (ys.getD k 0)=m at *
    generalize (if N=0 then a else Option.map (fun x=>x.add k) a)=ad at *
    gi_wp2_with fail
    refine⟨trivial,C.mono ?_⟩
    rintro e w1 ⟨rfl,b1⟩
    have hJ1:=hJ pre wr _ none hJs (grown_of_below (b1.alloc b1.size (cb s ff c g p m (.slice ad N N)))) (fun _ e=>by cases e)
    have HB1:=(hB.trans (b1.mono (Nat.le_trans hn₀ hB.size))).alloc (Nat.le_trans (Nat.le_trans hn₀ hB.size) b1.size) (cb s ff c g p m (.slice ad N N))
    have bR1:Boxed (w1.alloc (cb s ff c g p m (.slice ad N N))) Br 22 (.slice a ys.length cap):=bR.kept (grown_of_below (b1.alloc b1.size (cb s ff c g p m (.slice ad N N)))) (by simp)
    have M1:=chAt_new w1 s ff c g p m (.slice ad N N)
    obtain⟨fn,tmps,assign,body,hy,hR⟩:=hY1 _ hJ1
    have HB:Hid _:=HB1
    have HBX:Hid _:=bR1
    have HM:Hid _:=M1
    have HJ:Hid _:=hJ
    clear b1 C hJs hB bR cR hY1 hJ1 HB1 bR1 M1 hJ
    gi_wp2
    refine hR.mono ?_
    rintro e W3 (⟨rfl,hJ3,hk3⟩|⟨rfl,hJx3⟩)
    ·have M3:ChAt W3 w1.heap.size s ff c g p m (.slice ad N N):=hk3.2.2 _ _ HM.out
     have HB3:Hid _:=HB.out.trans hk3.1
     have HR3:Hid (Boxed W3 Br 22 (.slice a ys.length cap)):=hk3.2.1.trans HBX.out
     have HJ4:Hid _:=HJ.out _ W3 _ none hJ3 (grown_of_below ((Below.refl _ W3).alloc (Nat.le_refl _) (cb s ff c g p m (.slice ad N N)))) (fun _ e=>by cases e)
     have HB4:Hid _:=HB3.out.alloc (Nat.le_trans hn₀ HB3.out.size) (cb s ff c g p m (.slice ad N N))
     have HR4:Hid _:=HR3.out.alloc (cb s ff c g p m (.slice ad N N))
     obtain⟨m0,m1,m2,m3,m4,m5,m6,mf⟩:=chAt_cells M3
     clear HB HBX HM hR hy M3 hk3 hJ3 mf HJ HB3 HR3
     gi_wp2_with fail
     refine⟨trivial,(callsIn_wide.2 (size_any s ff c g p m ad N N W3)).mono ?_⟩
     rintro e W4 ⟨rfl,rfl⟩
     gi_wp2
     go_roundw
     case rel=>exact⟨_,k+N,by go_num,hNk,hL2,HJ4,HB4,HR4⟩
     case measure=>simp[intOf];omega
    ·gi_wp2
     refine bodyPost_ret (results_none rfl _ _ _) rfl ?_
     exact⟨⟨_,rfl⟩,.inr ⟨_,⟨plO ys (k+N),hL2.symm⟩,hJx3⟩⟩
theorem chunks_any (a:Option Addr) (len cap:Nat) (f:Int) (w:World) :
    Calls Tryz.prog 144 #[.slice a len cap,.int .i64 f] w fun e w'=>e = .returned (.func (.func 150) #[] #[.pointer (some ⟨w.heap.size+1,0,none⟩),.pointer (some ⟨w.heap.size,0,none⟩)])∧w'=(w.alloc (.cells #[.slice a len cap] 22)).alloc (.cells #[.int .i64 f] 2):=by
 go_enter Tryz.func144,Tryz.ntmps144
 go_wp2
 go_ret
 exact⟨rfl,rfl⟩
theorem chunks_stops (n:Nat) (hn:2≤n) (Br Bf n₀ f:Nat) (a:Option Addr) (cap:Nat) (ys:List Int) (hl:ys.length≤1000) (ha:AllI ys) (hf:f≤1000) (w:World) (h1:Br<w.heap.size) (h2:Bf<w.heap.size) (hn₀:n₀≤w.heap.size)
    (hBr:Boxed w Br 22 (.slice a ys.length cap)) (hBf:w.cell? ⟨Bf,0,none⟩=some (.int .i64 f)) (hI:∀W,Below n₀ w W→IntsAt W (.slice a ys.length cap) ys) :
    SeqStopsK Fence.wide n Tryz.prog 150 #[.pointer (some ⟨Bf,0,none⟩),.pointer (some ⟨Br,0,none⟩)] (encs a ys) (Kc n₀ Br) (fun zs=>zs=plO ys f) (fun pre=>pre <+: plO ys f) (plO ys f).length w:=fun l J Jx W hW hJ _ hY h0=>
 chunks1_in n hn l Br Bf n₀ f a cap ys hl ha hf J Jx hY W hJ ((hW.block Br h1).trans hBr) ((hW.cell (p:=⟨Bf,0,none⟩) h2).trans hBf) (fun W' hW'=>hI W' ((hW.mono hn₀).trans hW')) h0 (Nat.le_trans hn₀ hW.size)
end Go.Proofs.YtemlagfaaibenaaGreat.walks
