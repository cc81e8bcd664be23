/- Plain facts on the low two bits of a 64- -/
import Derived.Laws.BitsLemmas
import Derived.Laws.BitsAllLaws
import Derived.Test.YtocidankimefpaaGreatDoorRows
import Derived.WalkKit
import Derived.WalkSpells
import Derived.WalkLawsBesides
import Derived.OpenShut
import Derived.Below
import Derived.LoopTactic
import Derived.LoopN
import Derived.Deep.QuietTactic
import Derived.BigQuiet
import Derived.Laws.AppendOwnNone
import Derived.Test.YtocidankimefpaaGreatDoorProg
import Derived.Orders
import Derived.Deep.Quiet
import Derived.Tactics
import Derived.Laws.CopyOwn
import Derived.Deep.RegionLaw
import Derived.Deep.Cut
import Derived.Deep.CutRange
import Derived.Maps.OwnSet
import Derived.Deep.Upon
set_option linter.unusedVariables false
set_option maxRecDepth 100000
namespace Go.Proofs.YtocidankimefpaaGreatDoor
theorem J0 (n:Int):bits .and .i64 n 3=n % 4:=by
 have h3:(BitVec.ofInt 64 3).toNat=2 ^ 2-1:=by decide
 have key:(BitVec.ofInt 64 n &&& BitVec.ofInt 64 3).toNat=(n % ((2 ^ 64:Nat):Int)).toNat % 2 ^ 2:=by
  rw[BitVec.toNat_and,BitVec.toNat_ofInt,h3,Nat.and_two_pow_sub_one_eq_mod]
 show IntKind.i64.wrap ((BitVec.ofInt 64 n &&& BitVec.ofInt 64 3).toNat:Nat)=n % 4
 rw[key,IntKind.wrap_i64];omega
theorem or0 (x:Int) (h0 : -1000000≤x) (h1:x≤1000000):bits .or .i64 x 0=x:=by
 have h3:(BitVec.ofInt 64 0).toNat=0:=by decide
 have key:(BitVec.ofInt 64 x ||| BitVec.ofInt 64 0).toNat=(x % ((2 ^ 64:Nat):Int)).toNat:=by
  rw[BitVec.toNat_or,BitVec.toNat_ofInt,h3,Nat.or_zero]
 show IntKind.i64.wrap ((BitVec.ofInt 64 x ||| BitVec.ofInt 64 0).toNat:Nat)=x
 rw[key,IntKind.wrap_i64];omega
theorem Jb (n:Int) (h:n % 4=1):(n-1).tdiv 4=n / 4:=by
 rw[Int.tdiv_eq_ediv_of_dvd (by omega)];omega
end Go.Proofs.YtocidankimefpaaGreatDoor
namespace Go.Proofs.YtocidankimefpaaGreatDoor.rows
open Go.RowKit
def I64 (i:Int):Prop:= -9223372036854775808≤i∧i≤9223372036854775807
theorem iT {i:Int} (h:(Lit.int .i64 i).wf=true):I64 i:=by
 simpa [I64,Lit.wf,IntKind.min,IntKind.max,IntKind.signed,IntKind.bits] using h
abbrev cellsOf (xs:List Int):List Value:=xs.map (Value.int .i64)
def au (w:World) (v:Value) (xs:List Int):Prop:=
 ∃a cap,v = .slice a xs.length cap∧xs.length≤cap∧cap≤maxLen∧(a=none→cap=0) ∧
  (0<xs.length→∃b off,a=some ⟨b,off,none⟩∧b<w.heap.size∧∀i,i<xs.length→w.cell? ⟨b,off+i,none⟩=some (.int .i64 (xs.getD i 0)))
theorem aa {w w':World} {v:Value} {xs:List Int} (h:au w v xs) (hb:Below w.heap.size w w'):au w' v xs:=by
 obtain⟨a,cap,rfl,h1,h2,h4,h3⟩:=h;refine⟨a,cap,rfl,h1,h2,h4,fun hp => ?_⟩
 obtain⟨b,off,rfl,hlt,hc⟩:=h3 hp;exact⟨b,off,rfl,Nat.lt_of_lt_of_le hlt hb.size,fun i hi=>(hb.cell (p:=⟨b,off+i,none⟩) hlt).trans (hc i hi)⟩
def Own (w:World) (base:Nat) (v:Value) (xs:List Int):Prop:=w.ownsRow base 2 1 v xs.length (cellsOf xs)
theorem aj {w:World} {base:Nat} {v:Value} {xs:List Int} (h:Own w base v xs):au w v xs:=by
 have h':=h;obtain⟨_,⟨rfl,hn⟩|⟨g,cap,cur,rfl,hg,hh,hle,hm,hs,ht⟩⟩:=h
 ·have:xs=[]:=by simpa using hn
  subst this;exact⟨none,0,rfl,by simp,by decide,fun _=>rfl,fun hp=>absurd hp (by simp)⟩
 ·refine⟨_,cap,rfl,hle,hm,fun h=>(by cases h),fun hp=>⟨g,0,rfl,lt_of_block hh,fun i hi => ?_⟩⟩
  have:=World.ownsRow.cellAt h' i (by omega)
  rw[Nat.zero_add,this];simp[List.getD_eq_getElem?_getD,List.getElem?_eq_getElem hi]
theorem cL {w:World} {base base':Nat} {v:Value} {xs:List Int} (h:Own w base v xs) (hb:base'≤base):Own w base' v xs:=by
 obtain⟨h0,⟨h1,h2⟩|⟨g,cap,cur,h1,hg,hh,hle,hm,hs,ht⟩⟩:=h
 ·exact⟨h0,.inl ⟨h1,h2⟩⟩
 ·exact⟨h0,.inr ⟨g,cap,cur,h1,Nat.le_trans hb hg,hh,hle,hm,hs,ht⟩⟩
theorem aB {w w':World} {base:Nat} {v:Value} {xs:List Int} (h:Own w base v xs) (hb:Below w.heap.size w w'):Own w' base v xs:=by
 obtain⟨h0,⟨h1,h2⟩|⟨g,cap,cur,h1,hg,hh,hle,hm,hs,ht⟩⟩:=h
 ·exact⟨h0,.inl ⟨h1,h2⟩⟩
 ·exact⟨h0,.inr ⟨g,cap,cur,h1,hg,(hb.block g (lt_of_block hh)).trans hh,hle,hm,hs,ht⟩⟩
def Full (w:World) (b:Nat) (xs:List Int):Prop:=w.heap[b]? = some (.cells (cellsOf xs).toArray 2 (0,0))
theorem fZ {w:World} {b base:Nat} {xs:List Int} (h:Full w b xs) (hb:base≤b) (hm:xs.length≤maxLen):Own w base (.slice (some ⟨b,0,none⟩) xs.length xs.length) xs:=
 ⟨by simp,.inr ⟨b,xs.length,_,rfl,hb,h,Nat.le_refl _,hm,by simp,List.take_of_length_le (by simp)⟩⟩
theorem yP {w:World} {base g n:Nat} {cs:List Value} {xs:List Int} (h:w.ownsRow base 2 1 (.slice (some ⟨g,0,none⟩) n n) n cs) (hcs:cs=cellsOf xs):Full w g xs:=by
 subst hcs;obtain⟨_,⟨h1,_⟩|⟨g',cap,cur,h1,hg,hh,hle,hm,hs,ht⟩⟩:=h
 ·cases h1
 ·injection h1 with e1 e2 e3
  injection e1 with e1
  injection e1 with e1
  subst e1 e3;unfold Full;rw[hh];rw[List.take_of_length_le (by simpa using Nat.le_of_eq hs)]at ht;rw[←ht]
theorem Cc {w:World} {b:Nat} {xs:List Int} (h:Full w b xs) {i:Nat} (hi:i<xs.length):w.cell? ⟨b,i,none⟩=some (.int .i64 (xs.getD i 0)):=by
 unfold Full at h;simp[World.cell?, h,List.getD_eq_getElem?_getD,List.getElem?_eq_getElem hi]
theorem xC {w:World} {b:Nat} {xs:List Int} (h:Full w b xs) (i:Nat):w.frozen? ⟨b,i,none⟩=false:=by
 unfold Full at h;simp[World.frozen?, h]
theorem lY {w:World} {b:Nat} {c:Array Value} {t:TypeId} (h:w.heap[b]? = some (.cells c t (0,0))) (k:Nat) (u:Value) :
    (w.setCell ⟨b,k,none⟩ u).heap[b]? = some (.cells (c.setIfInBounds k u) t (0,0)):=by
 have hlt:=lt_of_block h;have h':w.heap[b] = .cells c t (0,0):=by simpa [Array.getElem?_eq_getElem hlt] using h
 show (w.heap.modify b _)[b]? = _
 rw[Array.getElem?_eq_getElem (by simpa using hlt),Array.getElem_modify_self,h'];rfl
theorem Ei {w:World} {b:Nat} {xs:List Int} (h:Full w b xs) (i:Nat) (x:Int):Full (w.setCell ⟨b,i,none⟩ (.int .i64 x)) b (xs.set i x):=by
 unfold Full;rw[lY h i];simp[cellsOf,List.map_set]
theorem info:(Tryz.prog.info? 2).map (fun i=>(i.zero,i.size,i.bytes))=some (some (.int .i64 0),1,8):=by kernel_rfl
theorem oA {xs ys:List Int} {k:Nat} (h:xs.take k=ys.take k) (hx:k<xs.length) (hy:k<ys.length) (e:xs.getD k 0=ys.getD k 0):xs.take (k+1)=ys.take (k+1):=by
 rw[List.take_succ_eq_append_getElem hx,List.take_succ_eq_append_getElem hy,h];simp[List.getD_eq_getElem?_getD,List.getElem?_eq_getElem hx,List.getElem?_eq_getElem hy]at e;rw[e]
theorem cA {w:World} {ad:Addr} {n cap:Nat} {xs:List Int} (h:au w (.slice (some ad) n cap) xs):∀j u,(cellsOf xs)[j]? = some u→w.cell? (ad.add j)=some u:=by
 obtain⟨a,cap',e,h1,h2,h4,h3⟩:=h;intro j u hj
 have hlt:j<xs.length:=by
  have:=List.getElem?_eq_some_iff.1 hj
  simpa using this.1
 obtain⟨b,off,rfl,_,hc⟩:=h3 (by omega);injection e with e1 e2 e3
 injection e1 with e1
 subst e1;have:=hc j hlt
 simp[List.getD_eq_getElem?_getD,List.getElem?_eq_getElem hlt]at this;simp[cellsOf,List.getElem?_eq_getElem hlt]at hj;rw[←hj];by_cases h0:j=0
 ·subst h0;simpa [Addr.add] using this
 ·simpa [Addr.add,h0] using this
def jl (xs:List Int):Bool:=decide (xs.length≤1000)
theorem zW {xs:List Int} (h:jl xs=true):xs.length≤1000:=by simpa [jl] using h
def DA (xs:List Int) (i:Int):Bool:=decide (0≤i∧i<xs.length)
theorem jR {xs:List Int} {i:Int} (h:DA xs i=true):0≤i∧i<xs.length:=by simpa [DA] using h
def oB (xs:List Int) (i:Int):Bool:=jl xs&&DA xs i
def eP (xs:List Int) (i:Int):Int:=if oB xs i=true then xs.getD i.toNat 0 else 0
theorem zX {w w1:World} {v':Value} {xs:List Int} (hown:w1.ownsRow w.heap.size 2 1 v' (0+xs.length) ([]++cellsOf xs)) (hgrow:(w.alloc (.cells #[] 2)).grownBy w1 (some w.heap.size))
    (hnn:v' = .slice none 0 0↔Value.slice (some ⟨w.heap.size,0,none⟩) 0 0 = .slice none 0 0∧xs.length=0) :
    ∃g cap,v' = .slice (some ⟨g,0,none⟩) xs.length cap∧w.heap.size≤g∧w1.ownsRow w.heap.size 2 1 (.slice (some ⟨g,0,none⟩) xs.length cap) xs.length (cellsOf xs)∧Below w.heap.size w w1:=by
 rw[Nat.zero_add,List.nil_append]at hown;have h':=hown;obtain⟨_,⟨rfl,_⟩|⟨g,cap,cur,rfl,hg,_⟩⟩:=hown
 ·exact absurd (hnn.1 rfl).1 (by simp)
 ·exact⟨g,cap,rfl,hg,h',((Below.refl _ _).alloc (Nat.le_refl _) _).grown hgrow (by simp) (fun k e=>by cases e;exact Nat.le_refl _)⟩
theorem gA {w:World} {base n:Nat} {v:Value} {xs:List Int} (h:w.ownsRow base 2 1 v n (cellsOf xs)) (hn:xs.length=n):Own w base v xs:=by
 subst hn;exact h
theorem eA {w:World} {ops:Array Oper} {rest:List Oper} {o:Oper} {act:Act} {Q:Exit→Act→World→Prop} {a:Option Addr} {cap:Nat} {xs:List Int}
    (h:au w (.slice a xs.length cap) xs) (hl:xs.length≤1048576) (hgd:o.guard=none) (s x:Operand) (ho:o.op = .call { callee:=.builtin .append,args:=#[s,x],argTypes:=#[22,22] })
    (hs:act.eval s = .slice (some ⟨w.heap.size,0,none⟩) 0 0) (hx:act.eval x = .slice a xs.length cap)
    (hK:∀g cap' w1,w.heap.size≤g→w1.ownsRow w.heap.size 2 1 (.slice (some ⟨g,0,none⟩) xs.length cap') xs.length (cellsOf xs)→Below w.heap.size w w1→wpList Tryz.prog ops Q rest (act.put o.dst (.slice (some ⟨g,0,none⟩) xs.length cap')) w1) :
    wpList Tryz.prog ops Q (o :: rest) act (w.alloc (.cells #[] 2)):=by
 obtain⟨i0,hi,hz0,hz1,hz2⟩:=info_parts info;have OWN:(w.alloc (.cells #[] 2)).ownsRow w.heap.size 2 1 (.slice (some ⟨w.heap.size,0,none⟩) 0 0) 0 []:=⟨rfl,.inr ⟨w.heap.size,0,#[],rfl,Nat.le_refl _,heap_alloc_new w _,Nat.le_refl _,by decide,rfl,rfl⟩⟩;have h':=h;obtain⟨a',cap',e,hlc,hcm,hnil,_⟩:=h;injection e with e1 e2 e3
 subst e1 e3;cases a with
 |none=>
  have hcap:=hnil rfl;have e:xs=[]:=List.eq_nil_of_length_eq_zero (by omega);subst e hcap;refine wpList_append_own_none hgd s x 22 ho _ 2 i0 1 Tryz.underlying22 hi _ 0 [] hs OWN hx ?_;exact hK _ _ _ (Nat.le_refl _) OWN ((Below.refl _ _).alloc (Nat.le_refl _) _)
 |some ad=>
  refine wpList_append_own _ hgd s x 22 ho _ 2 i0 (.int .i64 0) 1 8 Tryz.underlying22 hi hz0 hz1 hz2 rfl (by decide) _ 0 [] hs OWN ad xs.length cap (cellsOf xs) hx (by simp) (cA (aa h' ((Below.refl _ _).alloc (Nat.le_refl _) _))) (ints_oneCell _ _) (by unfold maxLen;omega) (by omega) (by simp) ?_;intro v' w1 hown hgrow hnn;obtain⟨g,cap',rfl,hg,hO,hB⟩:=zX hown hgrow hnn;exact hK g cap' w1 hg hO hB
theorem Ej {xs:List Int} {k:Nat} (h:k<xs.length):(xs.take k++List.replicate (xs.length-k) 0).set k (xs.getD k 0)=xs.take (k+1)++List.replicate (xs.length-(k+1)) 0:=by
 apply List.ext_getElem?
 intro i;simp only[List.getElem?_set,List.getElem?_append,List.length_take,List.getElem?_take,List.getElem?_replicate,List.length_append,List.length_replicate];rcases Nat.lt_trichotomy i k with hi|hi|hi
 ·grind
 ·grind
 ·grind
set_option maxHeartbeats 1000000 in
theorem ir {w:World} {v:Value} {xs:List Int} (h:au w v xs) (hl:xs.length≤1048576) :
    Calls Tryz.prog 18 #[v] w fun e w'=>e = .returned (.slice (some ⟨w.heap.size,0,none⟩) xs.length xs.length)∧Full w' w.heap.size xs∧Below w.heap.size w w':=by
 obtain⟨a,cap,rfl,hlc,hcm,_,hc⟩:=h;obtain⟨i0,hi,hz0,hz1,hz2⟩:=info_parts info;have HC:Hid (0<xs.length→∃b off,a=some ⟨b,off,none⟩∧b<w.heap.size∧∀i,i<xs.length→w.cell? ⟨b,off+i,none⟩=some (.int .i64 (xs.getD i 0))):=hc;clear hc;go_enter Tryz.func18,Tryz.ntmps18;go_wp2_with (at_make;refine wpList_make_full _ rfl _ _ 22 rfl w.heap.size 2 i0 (.int .i64 0) 1 Tryz.underlying22 hi hz0 hz1 _ _ _ _ xs.length rfl rfl rfl rfl (by rw[hz2];omega) (by unfold maxLen;omega) (Nat.le_refl _) ?_;intro w1 hown hgrow);have F:Full w1 w.heap.size (xs.take 0++List.replicate (xs.length-0) 0):=yP hown (by simp[cellsOf,toList_madeCells_one,Value.cells]);have B:Below w.heap.size w w1:=(Below.refl _ _).grown hgrow (Nat.le_refl _) (fun k e=>by cases e);clear hown hgrow hi hz0 hz1 hz2;go_loopw [4] (fun i wr=>∃k:Nat,k≤xs.length∧i = .int .i64 k∧Full wr w.heap.size (xs.take k++List.replicate (xs.length-k) 0)∧Below w.heap.size w wr) (fun i _=>xs.length-(intOf i).toNat);case atStart=>exact⟨0,Nat.zero_le _,rfl,F,B⟩
 case round=>
  obtain⟨k,hk,rfl,Fr,Br⟩:=hrel;by_cases hlt:k<xs.length
  ·obtain⟨b,off,rfl,hb,hc⟩:=HC.out (by omega);have c0:wr.cell? ⟨b,off+k,none⟩=some (.int .i64 (xs.getD k 0)):=(Br.cell (p:=⟨b,off+k,none⟩) hb).trans (hc k hlt);have c1:wr.cell? ⟨w.heap.size,k,none⟩=some (.int .i64 ((xs.take k++List.replicate (xs.length-k) 0).getD k 0)):=Cc Fr (by simp;omega);have c2:=xC Fr k;have F2:=Ei Fr k (xs.getD k 0);rw[Ej hlt]at F2;have B2:Below w.heap.size w (wr.setCell ⟨w.heap.size,k,none⟩ (.int .i64 (xs.getD k 0))):=Br.setCell (Nat.le_refl _) _;have HF:Hid _:=F2;have HB:Hid _:=B2;clear F2 B2 Fr Br hc F B;generalize xs.getD k 0=x at *;generalize (xs.take k++List.replicate (xs.length-k) 0).getD k 0=y at *;go_wp2;exact⟨⟨k+1,by omega,by go_num,HF,HB⟩,by simp[intOf];omega⟩
  ·have e:k=xs.length:=by omega
   subst e;have F0:Full wr w.heap.size xs:=by simpa using Fr
   have HF:Hid (Full wr w.heap.size xs):=F0;have HB:Hid (Below w.heap.size w wr):=Br;clear Fr Br F B F0;go_wp2;go_ret;exact⟨rfl,HF,HB⟩
set_option maxHeartbeats 1000000 in
theorem iu {w:World} {v1 v2:Value} {xs ys:List Int} (h1:au w v1 xs) (h2:au w v2 ys) (hl:xs.length≤1048576) :
    Calls Tryz.prog 27 #[v1,v2] w fun e w'=>e = .returned (.bool (decide (xs=ys)))∧∃n,w'=w.drewN n:=by
 obtain⟨a,cap,rfl,hlc,hcm,_,hc⟩:=h1;obtain⟨a',cap',rfl,hlc',hcm',_,hc'⟩:=h2;by_cases hn:xs.length=ys.length
 ·have HC:Hid (0<xs.length→∃b off,a=some ⟨b,off,none⟩∧b<w.heap.size∧∀i,i<xs.length→w.cell? ⟨b,off+i,none⟩=some (.int .i64 (xs.getD i 0))):=hc;have HC':Hid (0<ys.length→∃b off,a'=some ⟨b,off,none⟩∧b<w.heap.size∧∀i,i<ys.length→w.cell? ⟨b,off+i,none⟩=some (.int .i64 (ys.getD i 0))):=hc';clear hc hc';have hni:(xs.length:Int)=(ys.length:Int):=by omega
  go_enter Tryz.func27,Tryz.ntmps27;go_wp2_with fail;go_loopw [5] (fun i wr=>∃k n:Nat,k≤xs.length∧i = .int .i64 k∧xs.take k=ys.take k∧wr=w.drewN n) (fun i _=>xs.length-(intOf i).toNat);case atStart=>exact⟨0,0,Nat.zero_le _,rfl,by simp,rfl⟩
  case round=>
   obtain⟨k,n,hk,rfl,ht,rfl⟩:=hrel;by_cases hlt:k<xs.length
   ·obtain⟨b,off,rfl,hb,hc⟩:=HC.out (by omega);obtain⟨b',off',rfl,hb',hc'⟩:=HC'.out (by omega);have c0:=hc k hlt;have c1:=hc' k (by omega);have HT:Hid (xs.getD k 0=ys.getD k 0→xs.take (k+1)=ys.take (k+1)):=fun e=>oA ht hlt (by omega) e
    have HN:Hid (¬xs.getD k 0=ys.getD k 0→decide (xs=ys)=false):=fun e=>by simp only[decide_eq_false_iff_not];intro e';subst e';exact e rfl
    clear hc hc' ht HC HC';have hlt':k<ys.length:=by omega
    generalize xs.getD k 0=x at *;generalize ys.getD k 0=y at *;by_cases hxy:x=y
    ·go_wp2;go_quiet (fail);go_wp2;exact⟨⟨k+1,n+nq,by omega,by go_num,HT hxy,rfl⟩,by simp[intOf];omega⟩
    ·go_wp2;go_quiet (fail);go_wp2;go_ret;exact⟨by rw[HN hxy];rfl,n+nq,by rw[World.drewN_drewN]⟩
   ·have e:xs=ys:=by
      have e1:xs.take k=xs:=List.take_of_length_le (by omega);have e2:ys.take k=ys:=List.take_of_length_le (by omega);rw[←e1,ht,e2]
    have HE:Hid (decide (xs=ys)=true):=by show _=true;simpa using e
    clear ht e HC HC';go_wp2;go_ret;exact⟨by rw[HE.out];rfl,_,rfl⟩
 ·have hni:¬(xs.length:Int)=(ys.length:Int):=by omega
  clear hc hc';go_enter Tryz.func27,Tryz.ntmps27;go_wp2;go_ret;exact⟨by rw[decide_eq_false (fun e=>hn (by rw[e]))];rfl,0,rfl⟩
def marks (k:Int) (n:Nat):List Int:=(List.range n).map (fun i:Nat=>k+(i:Int))
theorem oC (k:Int) (n:Nat):(marks k n).length=n:=by simp[marks]
theorem zY (k:Int) {n i:Nat} (h:i<n):(marks k n).getD i 0=k+i:=by simp[marks,List.getD_eq_getElem?_getD,h]
theorem Ce {xs:List Int} {k:Nat} (k0:Int) (h:k<xs.length):(marks k0 k++xs.drop k).set k (k0+(k:Int))=marks k0 (k+1)++xs.drop (k+1):=by
 apply List.ext_getElem?
 intro i;simp only[marks,List.getElem?_set,List.getElem?_append,List.length_map,List.length_range,List.getElem?_map,List.getElem?_drop,List.length_append,List.length_drop];grind
set_option maxHeartbeats 1000000 in
theorem rP {w:World} {base:Nat} {v:Value} {xs:List Int} (h:Own w base v xs) (hl:xs.length≤1048576) (k0:Int) (hk0:0≤k0) (hk1:k0≤1048577) :
    Calls Tryz.prog 28 #[v,.int .i64 k0] w fun e w'=>e = .returned (.int .i64 (k0+xs.length))∧Own w' base v (marks k0 xs.length)∧w.grownBy w' v.ownBlock:=by
 have h':=h;obtain⟨_,⟨rfl,hn⟩|⟨g,cap,cur,rfl,hg,hh,hle,hm,hs,ht⟩⟩:=h
 ·have e:xs=[]:=by simpa using hn
  subst e;have HO:Hid (Own w base (.slice none 0 0) (marks k0 0)):=h';clear h' hn;go_enter Tryz.func28,Tryz.ntmps28;go_wp2;refine wp_loop_rounds 1 ?_;rw[rounds_succ];go_wp2;go_ret;exact⟨by simp,HO,World.grownBy.refl _ _⟩
 ·have HO:Hid (w.ownsRow base 2 1 (.slice (some ⟨g,0,none⟩) xs.length cap) xs.length (cellsOf (marks k0 0++xs.drop 0))):=h';clear h' hg hh hs ht cur;go_enter Tryz.func28,Tryz.ntmps28;go_wp2_with fail;go_loopw [1,5] (fun q i wr=>∃k:Nat,k≤xs.length∧i = .int .i64 k∧q = .int .i64 (k0+(k:Int))∧wr.ownsRow base 2 1 (.slice (some ⟨g,0,none⟩) xs.length cap) xs.length (cellsOf (marks k0 k++xs.drop k))∧w.grownBy wr (some g)) (fun _ i _=>xs.length-(intOf i).toNat);case atStart=>exact⟨0,Nat.zero_le _,rfl,by simp,HO,World.grownBy.refl _ _⟩
  case round=>
   obtain⟨k,hk,rfl,rfl,Or,Gr⟩:=hrel;by_cases hlt:k<xs.length
   ·have c0:=World.ownsRow.cellAt Or k (by omega);have c1:=World.ownsRow.frozenAt Or k;have S:=World.ownsRow.stored Or k (.int .i64 (k0+(k:Int)))
    have e1:(cellsOf (marks k0 k++xs.drop k)).set k (.int .i64 (k0+(k:Int)))=cellsOf (marks k0 (k+1)++xs.drop (k+1)):=by
     rw[←Ce k0 hlt];simp[cellsOf,List.map_set]
    rw[e1]at S;have HS:Hid _:=S.1;have HG:Hid (w.grownBy (wr.setCell ⟨g,k,none⟩ (.int .i64 (k0+(k:Int)))) (some g)):=⟨S.2.os.trans Gr.os,S.2.tape.trans Gr.tape,S.2.output.trans Gr.output,Nat.le_trans Gr.size S.2.size,fun i hi hne=>(S.2.block i (Nat.lt_of_lt_of_le hi Gr.size) hne).trans (Gr.block i hi hne)⟩;have c2:∃y,(cellsOf (marks k0 k++xs.drop k))[k]? = some y:=⟨_,List.getElem?_eq_getElem (by simp[marks];omega)⟩
    obtain⟨y,hy⟩:=c2;rw[hy]at c0;clear Or Gr S e1 HO hy;go_wp2;exact⟨⟨k+1,by omega,by go_num,by go_num,HS,HG⟩,by simp[intOf];omega⟩
   ·have e:k=xs.length:=by omega
    subst e
    have HS:Hid (Own wr base (.slice (some ⟨g,0,none⟩) xs.length cap) (marks k0 xs.length)):=by
     show World.ownsRow wr base _ 1 _ (marks k0 xs.length).length _
     rw[oC];simpa using Or
    have HG:Hid _:=Gr;clear Or Gr HO;go_wp2;go_ret;exact⟨rfl,HS,HG⟩
set_option maxHeartbeats 1000000 in
theorem rQ {w:World} {v:Value} {n:Nat} (k0:Int) (h:au w v (marks k0 n)) (hl:n≤1048576) (hk0:0≤k0) (hk1:k0≤1048577) :
    Calls Tryz.prog 29 #[v,.int .i64 k0] w fun e w'=>e = .returned (.int .i64 (k0+n))∧w'=w:=by
 obtain⟨a,cap,rfl,hlc,hcm,_,hc⟩:=h;rw[oC]at *;have HC:Hid _:=hc;clear hc;go_enter Tryz.func29,Tryz.ntmps29;go_wp2_with fail;go_loop [1,5] (fun q i=>∃k:Nat,k≤n∧i = .int .i64 k∧q = .int .i64 (k0+(k:Int))) (fun _ i=>n-(intOf i).toNat);case atStart=>exact⟨0,Nat.zero_le _,rfl,by simp⟩
 case round=>
  obtain⟨k,hk,rfl,rfl⟩:=hrel;by_cases hlt:k<n
  ·obtain⟨b,off,rfl,hb,hc⟩:=HC.out (by omega);have c0:=hc k hlt;rw[zY k0 hlt]at c0;clear hc HC;go_wp2;go_round;case rel=>exact⟨k+1,by omega,by go_num,by go_num⟩
   case measure=>simp[intOf];omega
  ·have e:k=n:=by omega
   subst e;go_wp2;go_ret;exact⟨rfl,rfl⟩
def In (lo hi:Nat) (v:Value):Prop:=∀k,v.ownBlock=some k→lo≤k∧k<hi
theorem I1 {w:World} {base:Nat} {v:Value} {xs:List Int} (h:Own w base v xs):In base w.heap.size v:=fun k e=>World.ownsRow.lt h k e
theorem fb {w:World} {n:Nat} {v:Value} {xs:List Int} (h:au w v xs):au (w.drewN n) v xs:=h
end Go.Proofs.YtocidankimefpaaGreatDoor.rows
namespace Go.Proofs.YtocidankimefpaaGreatDoor.ents
open Go.RowKit rows
abbrev Ent:=Int×ByteArray
def cellsE:List Ent→List Value
 | []=>[]
 |e :: es => .int .i64 e.1 :: .string e.2 :: cellsE es
abbrev ev (e:Ent):Value:=.agg #[.int .i64 e.1,.string e.2]
def namesLen:List Ent→Nat
 | []=>0
 |e :: es=>e.2.size+namesLen es
def szE (es:List Ent) (left:Nat):Int:=if es.length+namesLen es≤left then (left:Int)-(es.length+namesLen es:Nat) else -1
end Go.Proofs.YtocidankimefpaaGreatDoor.ents
namespace Go.Proofs.YtocidankimefpaaGreatDoor.region
open Go
theorem count_set (l:Array Bool) (i:Nat) (h:l.getD i true=false):(l.setIfInBounds i true).toList.count false+1=l.toList.count false:=by
 have hi:i<l.size:=by
  rcases Nat.lt_or_ge i l.size with h'|h'
  ·exact h'
  ·simp[Array.getD,Nat.not_lt.2 h']at h
 have he:l.toList[i]'(by simpa using hi)=false:=by
  simpa [Array.getD,hi] using h
 rw[Array.toList_setIfInBounds,List.count_set (by simpa using hi)];have hc:0<l.toList.count false:=List.count_pos_iff.2 (by rw[←he];exact List.getElem_mem _);simp[he];have hc':0<l.count false:=by simpa using hc
 omega
theorem vh {P:Program} {md:Region.Mode} {ops:Array Oper} {Q:Exit→Act→World→Prop} (I:Array Bool→Act→World→Prop)
    (fin:∀l a w,I l a w→Region.ready md ops l=[]→Q .normal a w)
    (stp:∀l a w i,I l a w→i ∈ Region.ready md ops l→wpOp P ops Q i (I (l.setIfInBounds i true)) a w) :
    ∀(fuel:Nat) (l:Array Bool) (a:Act) (w:World),l.toList.count false≤fuel→I l a w→wpAny P md ops Q fuel l a w
 |0,l,a,w,hc,h=>by
  have e:Region.ready md ops l=[]:=by
   rw[List.eq_nil_iff_forall_not_mem];intro i hi;have:=count_set l i (mem_ready.1 hi).1
   omega
  exact⟨e,fin l a w h e⟩
 |fuel+1,l,a,w,hc,h=>by
  refine⟨fun e=>fin l a w h e,fun i hi=>wpOp_mono (fun a' w' h' => ?_) (stp l a w i h hi)⟩
  have:=count_set l i (mem_ready.1 hi).1
  exact vh I fin stp fuel _ a' w' (by omega) h'
theorem lZ {P:Program} {id:Nat} {ops:Array Oper} {Q:Exit→Act→World→Prop} {a:Act} {w:World} (hm:P.follows .mixedOrders=true) (I:Array Bool→Act→World→Prop)
    (start:I (Array.replicate ops.size false) a w.drew)
    (fin:∀l a w,I l a w→Region.ready .any ops l=[]→Q .normal a w)
    (stp:∀l a w i,I l a w→i ∈ Region.ready .any ops l→wpOp P ops Q i (I (l.setIfInBounds i true)) a w):(Code.region id ops true).wp P Q a w:=
 wp_region_any hm (vh I fin stp _ _ _ _ (by simp) start)
def ovr (D:Nat→Bool) (a0:Act) (u:Nat→Value):Act:= { a0 with tmps:=((List.range a0.tmps.size).map fun s=>if D s then u s else a0.tmps.getD s undef).toArray }
def upd (u:Nat→Value) (d:Nat) (v:Value):Nat→Value:=fun s=>if s=d then v else u s
theorem af (t:Array Value) (s:Nat):t.getD s undef=t[s]?.getD undef:=by
 rw[Array.getD_eq_getD_getElem?]
theorem vi (D:Nat→Bool) (a0:Act) (u:Nat→Value) (s:Nat) (hs:s<a0.tmps.size):(ovr D a0 u).tmps[s]? = some (if D s then u s else a0.tmps.getD s undef):=by
 simp[ovr,hs]
theorem tF (D:Nat→Bool) (a0:Act) (u:Nat→Value):(ovr D a0 u).tmps.size=a0.tmps.size:=by simp[ovr]
theorem tG (D:Nat→Bool) (a0:Act):ovr D a0 (fun s=>a0.tmps.getD s undef)=a0:=by
 cases a0 with
 |mk tmps defers=>
  unfold ovr;congr 1
  apply Array.ext_getElem?
  intro s;rcases Nat.lt_or_ge s tmps.size with h|h
  ·simp[h]
  ·simp[h]
theorem Cf {D:Nat→Bool} {a0:Act} {u:Nat→Value} {d:Nat} {v:Value} (hd:D d=true):(ovr D a0 u).put (some d) v=ovr D a0 (upd u d v):=by
 have e:((ovr D a0 u).put (some d) v).tmps=(ovr D a0 (upd u d v)).tmps:=by
  show (ovr D a0 u).tmps.setIfInBounds d v=_
  apply Array.ext_getElem?
  intro s;rcases Nat.lt_or_ge s a0.tmps.size with h|h
  ·rw[vi D a0 _ s h,Array.getElem?_setIfInBounds];by_cases hs:d=s
   ·subst hs;rw[if_pos rfl,tF,if_pos h,if_pos hd];simp[upd]
   ·rw[if_neg hs,vi D a0 _ s h];have:¬s=d:=fun e=>hs e.symm
    simp[upd,this]
  ·rw[Array.getElem?_eq_none (by simpa [tF] using h),Array.getElem?_eq_none (by simpa [tF] using h)]
 have e':((ovr D a0 u).put (some d) v).defers=(ovr D a0 (upd u d v)).defers:=rfl;cases h1:(ovr D a0 u).put (some d) v
 cases h2:ovr D a0 (upd u d v)
 rw[h1,h2]at e e';simp only at e e';rw[e,e']
theorem zZ {ops:Array Oper} {l:Array Bool} (hacyc:∀(k:Nat) (o:Oper),ops[k]? = some o→∀e ∈ o.after,e.on<k) (hl:l.size=ops.size) (h:Region.ready .any ops l=[]):∀k,k<ops.size→l.getD k false=true:=by
 intro k;induction k using Nat.strongRecOn with
 |ind k ih=>
  intro hk;have hl':k<l.size:=by omega
  cases hv:l.getD k false with
  |true=>rfl
  |false=>
   have h1:l.getD k true=false:=by
    simp only[Array.getD,hl',dite_true]at hv ⊢;exact hv
   have:k ∈ Region.ready .any ops l:=mem_ready.2 ⟨h1,ops[k],Array.getElem?_eq_getElem hk,fun e he _=>ih e.on (hacyc k _ (Array.getElem?_eq_getElem hk) e he) (by have:=hacyc k _ (Array.getElem?_eq_getElem hk) e he;omega)⟩
   rw[h]at this;cases this
theorem gY {P:Program} {id:Nat} {ops:Array Oper} {Q:Exit→Act→World→Prop} {a0:Act} {w:World} (hm:P.follows .mixedOrders=true) (D:Nat→Bool)
    (hg:∀o ∈ ops,o.guard=none) (hacyc:∀(k:Nat) (o:Oper),ops[k]? = some o→∀e ∈ o.after,e.on<k)
    (I:Array Bool→(Nat→Value)→World→Prop)
    (start:I (Array.replicate ops.size false) (fun s=>a0.tmps.getD s undef) w.drew)
    (fin:∀l u w,I l u w→(∀k,k<ops.size→l.getD k false=true)→Q .normal (ovr D a0 u) w)
    (stp:∀l u w k o,I l u w→l.size=ops.size→l.getD k false=false→ops[k]? = some o→(∀e ∈ o.after,Region.binds .any e=true→l.getD e.on false=true) →
     o.wp P (ovr D a0 u) w (fun a' w'=>∃u',a'=ovr D a0 u'∧I (l.setIfInBounds k true) u' w') Q):(Code.region id ops true).wp P Q a0 w:=by
 refine lZ hm (fun l a w=>l.size=ops.size∧∃u,a=ovr D a0 u∧I l u w) ⟨by simp,_,(tG D a0).symm,start⟩ ?_ ?_
 ·rintro l a w ⟨hl,u,rfl,h⟩ hr;exact fin l u w h (zZ hacyc hl hr)
 ·rintro l a w i ⟨hl,u,rfl,h⟩ hi;obtain⟨h1,o,ho,hd⟩:=mem_ready.1 hi;have hi':i<ops.size:=(Array.getElem?_eq_some_iff.1 ho).1
  have h1':l.getD i false=false:=by
   have hl':i<l.size:=by omega
   simp only[Array.getD,hl',dite_true]at h1 ⊢;exact h1
  have hgo:=hg o (Array.mem_of_getElem? ho);unfold wpOp;rw[ho];simp only;rw[if_pos (by simp[Region.wanted,hgo])];refine .inl (Oper.wp_mono (fun a' w' h' => ?_) (stp l u w i o h hl h1' ho hd));obtain⟨u',e,h'⟩:=h';exact⟨by simpa using hl,u',e,h'⟩
theorem a8 (l:Array Bool) {k j:Nat} (h:¬k=j):(l.setIfInBounds k true).getD j false=l.getD j false:=by
 rw[Array.getD_eq_getD_getElem?, Array.getElem?_setIfInBounds,if_neg h,Array.getD_eq_getD_getElem?]
theorem iU {n:Nat} {F:Nat→Value→World→Prop} {dst:Nat→Nat} {l:Array Bool} {u:Nat→Value} {w w':World} {k:Nat} {v:Value} (hi:∀j,j<n→dst j=dst k→j=k)
    (H:∀j,j<n→l.getD j false=true→F j (u (dst j)) w) (hs:∀j,j<n→j≠k→l.getD j false=true→∀t,F j t w→F j t w') (hv:F k v w') :
    ∀j,j<n→(l.setIfInBounds k true).getD j false=true→F j (upd u (dst k) v (dst j)) w':=by
 intro j hj hlj;by_cases e:j=k
 ·subst e;simp only[upd,if_true];exact hv
 ·have:¬dst j=dst k:=fun e'=>e (hi j hj e')
  simp only[upd,this,if_false];have hlj':l.getD j false=true:=by rwa [a8 l (Ne.symm e)]at hlj
  exact hs j hj e hlj' _ (H j hj hlj')
theorem aN {l:Array Bool} {k:Nat} (hk:k<l.size):(l.setIfInBounds k true).getD k false=true:=by
 simp[Array.getD,hk]
def Has (ops:Array Oper) (k:Nat) (d:Option Nat) (op:Op) (deps:List Nat):Prop:=∃o,ops[k]? = some o∧o.dst=d∧o.op=op∧∀j ∈ deps,∃e ∈ o.after,e.on=j∧Region.binds .any e=true
theorem jB {ops:Array Oper} {k:Nat} {d:Option Nat} {op:Op} {deps:List Nat} (h:Has ops k d op deps) {o:Oper} (ho:ops[k]? = some o) {l:Array Bool} (hd:∀e ∈ o.after,Region.binds .any e=true→l.getD e.on false=true):o.dst=d∧o.op=op∧∀j ∈ deps,l.getD j false=true:=by
 obtain⟨o',ho',h1,h2,h3⟩:=h;rw[ho]at ho';injection ho' with ho'
 subst ho';refine⟨h1,h2,fun j hj => ?_⟩
 obtain⟨e,he,rfl,hb⟩:=h3 j hj;exact hd e he hb
theorem aA {P:Program} {o:Oper} {a:Act} {w w':World} {K:Act→World→Prop} {Q:Exit→Act→World→Prop} {v:Value} (h:(execOp a.eval o).run P w = .ok (.value v) w') (hk:K (a.put o.dst v) w'):o.wp P a w K Q:=by
 unfold Oper.wp;rw[h];exact hk
theorem iG {P:Program} {o:Oper} {a:Act} {w:World} {K:Act→World→Prop} {Q:Exit→Act→World→Prop} {f:FuncId} {args:Array Value} (h:(execOp a.eval o).run P w = .ok (.enter f args) w) (hk:Calls P f args w fun e w'=>∃v,e = .returned v∧K (a.put o.dst v) w'):o.wp P a w K Q:=by
 unfold Oper.wp;rw[h,Oper.upon_enter];refine hk.mono ?_;rintro e w' ⟨v,rfl,h⟩;exact h
theorem aS {D:Nat→Bool} {a0:Act} {u:Nat→Value} {s:Nat} (hd:D s=true) (hs:s<a0.tmps.size):(ovr D a0 u).eval (.tmp s)=u s:=by
 show (ovr D a0 u).tmps.getD s undef=_
 rw[af,vi D a0 u s hs,hd];rfl
theorem ah {D:Nat→Bool} {a0:Act} {u:Nat→Value} {s:Nat} (hd:D s=false) (hs:s<a0.tmps.size):(ovr D a0 u).eval (.tmp s)=a0.tmps.getD s undef:=by
 show (ovr D a0 u).tmps.getD s undef=_
 rw[af,vi D a0 u s hs,hd];rfl
theorem aF {D:Nat→Bool} {a0:Act} {o:Oper} {d:Nat} (ho:o.dst=some d) (hd:D d=true) (u:Nat→Value) (v:Value):(ovr D a0 u).put o.dst v=ovr D a0 (upd u d v):=by
 rw[ho];exact Cf hd
theorem I3 {D:Nat→Bool} {a0:Act} {o:Oper} (ho:o.dst=none) (u:Nat→Value) (v:Value):(ovr D a0 u).put o.dst v=ovr D a0 u:=by
 rw[ho];rfl
end Go.Proofs.YtocidankimefpaaGreatDoor.region
namespace Go.Proofs.YtocidankimefpaaGreatDoor.region
open Go Go.RowKit
theorem jS {P:Program} {id:Nat} {ops:Array Oper} {Q:Exit→Act→World→Prop} {a0:Act} {w:World} (hm:P.follows .mixedOrders=true) (D:Nat→Bool)
    (hg:∀o ∈ ops,o.guard=none) (hacyc:∀(k:Nat) (o:Oper),ops[k]? = some o→∀e ∈ o.after,e.on<k) (n:Nat) (hn:ops.size=n+1) (dst:Nat→Nat) (hinj:∀k,k<n→∀j,j<n→dst j=dst k→j=k)
    (F:Nat→Value→World→Prop) (hst:∀k t W W',Below W.heap.size W W'→F k t W→F k t W')
    (hall:∀o,ops[n]? = some o→∀j,j<n→∃e ∈ o.after,e.on=j∧Region.binds .any e=true)
    (step:∀k o u W,k<n→ops[k]? = some o→Below w.heap.size w W→(∀j,j<n→(∃e ∈ o.after,e.on=j∧Region.binds .any e=true)→F j (u (dst j)) W)→o.wp P (ovr D a0 u) W (fun a' W'=>∃v,a'=ovr D a0 (upd u (dst k) v)∧Below W.heap.size W W'∧F k v W') Q)
    (last:∀o u W,ops[n]? = some o→Below w.heap.size w W→(∀j,j<n→F j (u (dst j)) W)→o.wp P (ovr D a0 u) W (fun a' W'=>∃u',a'=ovr D a0 u'∧Q .normal (ovr D a0 u') W') Q) :
    (Code.region id ops true).wp P Q a0 w:=by
 refine gY hm D hg hacyc (fun l u W=>(l.getD n false=false∧Below w.heap.size w W∧∀k,k<n→l.getD k false=true→F k (u (dst k)) W)∨((∀k,k<n+1→l.getD k false=true)∧Q .normal (ovr D a0 u) W)) (.inl ⟨?_,(Below.refl _ w).drew,fun k hk h => ?_⟩) ?_ ?_
 ·simp[Array.getD,hn]
 ·simp[Array.getD,hn,show k<n+1 by omega]at h
 ·rintro l u W (⟨h1,_⟩|⟨_,h⟩) hA
  ·rw[hA n (by omega)]at h1;cases h1
  ·exact h
 ·rintro l u W k o (⟨h1,hB,hF⟩|⟨hA,_⟩) hl hlk ho hd
  case inr=>
   have hk:k<n+1:=by rw[←hn];exact (Array.getElem?_eq_some_iff.1 ho).1
   rw[hA k hk]at hlk;cases hlk
  have hk:k<n+1:=by rw[←hn];exact (Array.getElem?_eq_some_iff.1 ho).1
  by_cases e:k=n
  ·subst e
   have hA:∀j,j<k→l.getD j false=true:=fun j hj=>by
    obtain⟨e,he,rfl,hb⟩:=hall o ho j hj;exact hd e he hb
   refine Oper.wp_mono ?_ (last o u W ho hB (fun j hj=>hF j hj (hA j hj)));rintro a' W' ⟨u',rfl,h⟩;refine⟨u',rfl,.inr ⟨fun j hj => ?_,h⟩⟩
   by_cases e:j=k
   ·subst e;exact aN (by omega)
   ·rw[a8 l (Ne.symm e)];exact hA j (by omega)
  ·have hk':k<n:=by omega
   refine Oper.wp_mono ?_ (step k o u W hk' ho hB (fun j hj ⟨e,he,e1,hb⟩=>hF j hj (by rw[←e1];exact hd e he hb)));rintro a' W' ⟨v,rfl,hb,hv⟩;refine⟨_,rfl,.inl ⟨?_,hB.trans (hb.mono hB.size),?_⟩⟩
   ·rw[a8 l e];exact h1
   ·exact iU (dst:=dst) (hinj k hk') hF (fun j _ _ _ t=>hst j t W W' hb) hv
theorem cY {ops:Array Oper} {k:Nat} {d:Option Nat} {op:Op} {deps:List Nat} (h:Has ops k d op deps) {o:Oper} (ho:ops[k]? = some o):o.dst=d∧o.op=op∧∀j ∈ deps,∃e ∈ o.after,e.on=j∧Region.binds .any e=true:=by
 obtain⟨o',ho',h1,h2,h3⟩:=h;rw[ho]at ho';injection ho' with ho'
 subst ho';exact⟨h1,h2,h3⟩
theorem Ek {P:Program} {o:Oper} {a:Act} {w w':World} {K:Act→World→Prop} {Q:Exit→Act→World→Prop} (h:(execOp a.eval o).run P w = .ok .skip w') (hk:K (a.put o.dst undef) w'):o.wp P a w K Q:=by
 unfold Oper.wp;rw[h];exact hk
theorem aX {ops:Array Oper} {o:Oper} {t:Array Value} (h:o.guard=none):Region.wanted o (yielded ops t)=true:=by simp[Region.wanted,h]
theorem aC {ops:Array Oper} {o og:Oper} {D:Nat→Bool} {a0:Act} {u:Nat→Value} {g d:Nat} {b c:Bool} (h:o.guard=some (g,b)) (hg:ops[g]? = some og) (hd:og.dst=some d) (hD:D d=true) (hs:d<a0.tmps.size) (hu:u d = .bool c):Region.wanted o (yielded ops (ovr D a0 u).tmps)=(c==b):=by
 have hy:yielded ops (ovr D a0 u).tmps g=some c:=by
  unfold yielded;rw[hg];simp only[Option.bind_some,hd];rw[vi D a0 u d hs,hD,if_pos rfl,hu]
 simp only[Region.wanted,h,hy];cases b<;>cases c<;>rfl
theorem tH {P:Program} {id:Nat} {ops:Array Oper} {Q:Exit→Act→World→Prop} {a0:Act} {w:World} (D:Nat→Bool) (R:World→World→Prop) (Rtr:∀a b c,R a b→R b c→R a c) (Rrf:R w w)
    (n:Nat) (hn:ops.size=n) (dst:Nat→Nat) (hinj:∀k,k<n→∀j,j<n→dst j=dst k→j=k)
    (F:Nat→Value→World→Prop) (hst:∀k t W W',R W W'→F k t W→F k t W')
    (step:∀k o u W,k<n→ops[k]? = some o→R w W→(∀j,j<k→F j (u (dst j)) W) →
     (Region.wanted o (yielded ops (ovr D a0 u).tmps)=true∧o.wp P (ovr D a0 u) W (fun a' W'=>∃v,a'=ovr D a0 (upd u (dst k) v)∧R W W'∧F k v W') Q) ∨
     (Region.wanted o (yielded ops (ovr D a0 u).tmps)=false∧o.dst=some (dst k)∧D (dst k)=true∧F k undef W))
    (fin:∀u W,R w W→(∀j,j<n→F j (u (dst j)) W)→Q .normal (ovr D a0 u) W) :
    (Code.region id ops false).wp P Q a0 w:=by
 have put:∀(k:Nat) (u:Nat→Value) (v:Value) (W W':World),k<n→(∀j,j<k→F j (u (dst j)) W)→(∀j t,F j t W→F j t W')→F k v W'→∀j,j<k+1→F j (upd u (dst k) v (dst j)) W':=by
  intro k u v W W' hk hF hs hv j hj;by_cases e:j=k
  ·subst e;simp only[upd,if_true];exact hv
  ·have:¬dst j=dst k:=fun e'=>e (hinj k hk j (by omega) e')
   simp only[upd,this,if_false];exact hs j _ (hF j (by omega))
 have main:∀(l:List Oper) (k:Nat) (u:Nat→Value) (W:World),ops.toList.drop k=l→k≤n→R w W→(∀j,j<k→F j (u (dst j)) W)→wpList P ops Q l (ovr D a0 u) W:=by
  intro l;induction l with
  |nil=>
   intro k u W hl hk hR hF
   have:n≤k:=by
    have:=congrArg List.length hl
    simp at this;omega
   exact fin u W hR fun j hj=>hF j (by omega)
  |cons o l ih=>
   intro k u W hl hk hR hF
   have hk':k<n:=by
    have:=congrArg List.length hl
    simp at this;omega
   have ho:ops[k]? = some o:=by
    have h0:=congrArg (fun l=>l[0]?) hl;simpa using h0
   have hl':ops.toList.drop (k+1)=l:=by
    have h0:=congrArg List.tail hl;simpa using h0
   rcases step k o u W hk' ho hR hF with ⟨hw,h⟩|⟨hw,hds,hD,h⟩
   ·show if _ then _ else _
    rw[if_pos hw];refine .inl (Oper.wp_mono (fun a' W' h' => ?_) h);obtain⟨v,rfl,hR',hv⟩:=h';exact ih (k+1) _ W' hl' hk' (Rtr _ _ _ hR hR') (put k u v W W' hk' hF (fun j t=>hst j t W W' hR') hv)
   ·show if _ then _ else _
    rw[if_neg (by rw[hw];simp),hds,Cf hD];exact ih (k+1) _ W hl' hk' hR (put k u undef W W hk' hF (fun _ _ h=>h) h)
 refine wp_region_list ?_;have:=main ops.toList 0 (fun s=>a0.tmps.getD s undef) w (by simp) (Nat.zero_le _) Rrf (fun j hj=>by omega)
 rwa [tG]at this
end Go.Proofs.YtocidankimefpaaGreatDoor.region
namespace Go.Proofs.YtocidankimefpaaGreatDoor.copyk
open Go.RowKit
theorem xD {P:Program} (w:World) (t e ty:TypeId) (z:Value) (sz:Nat) (hu:P.underlying t=some (.slice e)) (hv:∀w,(zeroValue e).run P w = .ok z w)
    (ap:Option Addr) (n c:Nat) (g off:Nat) (cur:List Value) (ct:TypeId) (hg:w.heap[g]? = some (.cells cur.toArray ct (0,0))) (hpos:0<n→ap=some ⟨g,off,none⟩)
    (hl:(Builtin.zeroCells z.cells n).toList.length=n*sz) (h1:∀v ∈ (Builtin.zeroCells z.cells n).toList,v.oneCell'=true) (hfit:off+n*sz≤cur.length) :
    ∃w',(Builtin.clear_ #[t] ty #[.slice ap n c]).run P w = .ok (.tuple #[]) w'∧w'.heap[g]? = some (.cells (if n=0 then cur else splice cur off (Builtin.zeroCells z.cells n).toList).toArray ct (0,0))∧(∀k,k≠g→w'.heap[k]? = w.heap[k]?)∧∀ {B:Nat} {w0:World},Below B w0 w→B≤g→Below B w0 w':=by
 cases n with
 |zero=>
  refine⟨w,?_,by simpa using hg,fun _ _=>rfl,fun h _=>h⟩
  cases ap<;>simp[Builtin.clear_,run_underlying hu]
 |succ n=>
  obtain rfl:=hpos (by omega);have hst:=run_storeCells_at P g off ct (Builtin.zeroCells z.cells (n+1)).toList 0 cur.toArray w hg (by rw[hl];simpa using hfit) h1;refine⟨w.setRow g (splice cur off (Builtin.zeroCells z.cells (n+1)).toList).toArray,?_,?_,fun k hk=>setRow_other w g k _ hk,fun h h'=>below_setRow h h' _⟩
  ·simp only[Builtin.clear_];simp[run_underlying hu,hv,hst,splice]
  ·simpa using setRow_heap w g _ (splice cur off (Builtin.zeroCells z.cells (n+1)).toList).toArray ct _ hg
end Go.Proofs.YtocidankimefpaaGreatDoor.copyk
namespace Go.Proofs.YtocidankimefpaaGreatDoor.rows
open Go.RowKit
theorem gk {w:World} {v:Value} {xs:List Int} (h:au w v xs) :
    Calls Tryz.prog 126 #[v] w fun e w'=>e = .returned (.bool (jl xs))∧w'=w:=by
 obtain⟨a,cap,rfl,hlc,hcm,_,hc⟩:=h;clear hc;by_cases h1:xs.length≤1000
 ·have h2:(xs.length:Int)≤1000:=by omega
  go_enter Tryz.func126,Tryz.ntmps126;go_wp2;go_ret;exact⟨by simp[jl,h1],rfl⟩
 ·have h2:¬(xs.length:Int)≤1000:=by omega
  go_enter Tryz.func126,Tryz.ntmps126;go_wp2;go_ret;exact⟨by simp[jl];omega,rfl⟩
def oT (len:Nat) (f n:Int):Bool:=decide (0≤f∧0≤n∧f+n≤len)
theorem kC {len:Nat} {f n:Int} (h:oT len f n=true):0≤f∧0≤n∧f+n≤len:=by simpa [oT] using h
theorem xE {len:Nat} {f n:Int} (h:oT len f n=false):¬(0≤f∧0≤n∧f+n≤len):=by simpa [oT] using h
def piece (a:Option Addr) (f n:Nat):Value:=.slice (if n=0 then a else a.map (·.add f)) n n
theorem Cg {w:World} {a:Option Addr} {len cap:Nat} (hlc:len≤cap) (hcm:cap≤maxLen) (f n:Int) (hf:I64 f) (hn:I64 n) (d:oT len f n=false) :
    Calls Tryz.prog 162 #[.slice a len cap,.int .i64 f,.int .i64 n] w fun e w'=>e = .returned (.tuple #[.slice none 0 0,.bool false])∧w'=w:=by
 unfold I64 at hf hn;unfold maxLen at hcm;have d':=xE d;clear d;by_cases h1:f<0
 ·go_enter Tryz.func162,Tryz.ntmps162;go_wp2;go_ret2;exact⟨rfl,rfl⟩
 ·by_cases h2:n<0
  ·go_enter Tryz.func162,Tryz.ntmps162;go_wp2;go_ret2;exact⟨rfl,rfl⟩
  ·have h3:n > (len:Int)-f:=by omega
   go_enter Tryz.func162,Tryz.ntmps162;go_wp2;go_ret2;exact⟨rfl,rfl⟩
theorem nH {w:World} {a:Option Addr} {len cap:Nat} (hlc:len≤cap) (hcm:cap≤maxLen) (F N:Nat) (fn:F+N≤len) :
    Calls Tryz.prog 162 #[.slice a len cap,.int .i64 F,.int .i64 N] w fun e w'=>e = .returned (.tuple #[piece a F N,.bool true])∧w'=w:=by
 unfold maxLen at hcm;have h1:¬(F:Int)<0:=by omega
 have h2:¬(N:Int)<0:=by omega
 have h3:¬(N:Int) > (len:Int)-F:=by omega
 go_enter Tryz.func162,Tryz.ntmps162;go_wp2;all_goals go_ret2
 ·exact⟨by simp[piece, *],rfl⟩
 ·exact⟨by simp[piece, *],rfl⟩
theorem eU (b off k n:Nat) (hn:0<n):piece (some ⟨b,off,none⟩) k n = .slice (some ⟨b,off+k,none⟩) n n:=by
 have hn':n≠0:=by omega
 by_cases h0:k=0
 ·subst h0;simp[piece,Addr.add]
 ·simp[piece,Addr.add,h0,hn']
theorem iV (a:Option Addr) (k:Nat):piece a k 0 = .slice a 0 0:=by simp[piece]
theorem nI (w:World) (v:Value) (xs:List Int) (i:Int) (h:au w v xs) (hl:xs.length≤1048576) (hi:I64 i) :
    Calls Tryz.prog 198 #[v,.int .i64 i] w fun e w'=>e = .returned (.tuple #[.int .i64 (eP xs i),.bool (oB xs i)])∧Below w.heap.size w w':=by
 have h':=h;obtain⟨a,cap,rfl,hlc,hcm,_,hc⟩:=h;cases d1:jl xs
 ·have eo:oB xs i=false:=by simp[oB,d1]
  have er:eP xs i=0:=by simp[eP,eo]
  rw[er,eo];clear hc er;go_enter Tryz.func198,Tryz.ntmps198;go_wp2_with (go_at_call 126;refine (gk h').mono ?_;rintro e w' ⟨rfl,hw⟩;rw[hw];clear hw w');go_ret2;exact⟨rfl,Below.refl _ _⟩
 ·cases d2:DA xs i
  ·have eo:oB xs i=false:=by simp[oB,d2]
   have er:eP xs i=0:=by simp[eP,eo]
   have dc:oT xs.length i 1=false:=by simp[oT,DA]at d2 ⊢; omega
   rw[er,eo];clear hc er;go_enter Tryz.func198,Tryz.ntmps198;go_wp2_with (go_at_call 126;refine (gk h').mono ?_;rintro e w' ⟨rfl,hw⟩;rw[hw];clear hw w');refine (Cg hlc hcm i 1 hi ⟨by decide,by decide⟩ dc).mono ?_;rintro e w' ⟨rfl,hw⟩;rw[hw];clear hw w';go_wp2;go_ret2;exact⟨rfl,Below.refl _ _⟩
  ·have eo:oB xs i=true:=by simp[oB,d1,d2]
   obtain⟨p1,p2⟩:=jR d2;obtain⟨k,rfl⟩:=Int.eq_ofNat_of_zero_le p1;obtain⟨b,off,rfl,hb,hcc⟩:=hc (by omega);have c0:=hcc k (by omega);have er:eP xs k=xs.getD k 0:=by simp[eP,eo]
   have ep:=eU b off k 1 (by decide);rw[er,eo];clear hc hcc er;generalize xs.getD k 0=x at *;go_enter Tryz.func198,Tryz.ntmps198;go_wp2_with (go_at_call 126;refine (gk h').mono ?_;rintro e w' ⟨rfl,hw⟩;rw[hw];clear hw w');refine (nH hlc hcm k 1 (by omega)).mono ?_;rintro e w' ⟨rfl,hw⟩;rw[hw,ep];clear hw w' ep;go_wp2;go_ret2;exact⟨rfl,Below.refl _ _⟩
theorem El:(Tryz.prog.info? 2).map (·.size)=some 1:=by kernel_rfl
theorem A7 {L cs:List Value} (h:cs.length=L.length):splice L 0 cs=cs:=by simp[splice,h]
theorem I4 {w:World} {a:Option Addr} {cap:Nat} {xs:List Int} (h:au w (.slice a xs.length cap) xs) (hp:0<xs.length):∃ad,a=some ad∧∀j v,(cellsOf xs)[j]? = some v→w.cell? (ad.add j)=some v:=by
 have h':=h;obtain⟨a',cap',e,_,_,_,hc⟩:=h;injection e with e1 e2 e3
 subst e1;obtain⟨b,off,rfl,_⟩:=hc hp;exact⟨_,rfl,cA h'⟩
theorem qt (w:World) (base:Nat):Own w base (.slice none 0 0) []:=World.ownsRow_nil _ _ _ _
theorem kJ {w:World} {v:Value} {xs:List Int} (h:au w v xs) (hl:xs.length≤1048576) :
    Calls Tryz.prog 49 #[v] w fun e w'=>e = .returned (.slice (some ⟨w.heap.size,0,none⟩) xs.length xs.length)∧Full w' w.heap.size xs∧Below w.heap.size w w':=by
 have h':=h;obtain⟨a,cap,rfl,hlc,hcm,_,hc⟩:=h;obtain⟨i0,hi,hz0,hz1,hz2⟩:=info_parts info;clear hc;go_enter Tryz.func49,Tryz.ntmps49;go_upto_region 2 with (at_make;refine wpList_make_full _ rfl _ _ 22 rfl w.heap.size 2 i0 (.int .i64 0) 1 Tryz.underlying22 hi hz0 hz1 _ _ _ _ xs.length rfl rfl rfl rfl (by rw[hz2];omega) (by unfold maxLen;omega) (Nat.le_refl _) ?_;intro w1 hown hgrow)
 have F0:Full w1 w.heap.size (List.replicate xs.length 0):=yP hown (by simp[cellsOf,toList_madeCells_one,Value.cells]);have B0:Below w.heap.size w w1:=(Below.refl _ _).grown hgrow (Nat.le_refl _) (fun k e=>by cases e);have SRC:=I4 (aa h' B0);have hn:(cellsOf xs).length=Nat.min xs.length xs.length:=by rw[show Nat.min xs.length xs.length=xs.length from Nat.min_self _];simp
 have hfit:0+(cellsOf xs).length≤(cellsOf (List.replicate xs.length 0)).length:=by simp
 have hp0:0<(cellsOf xs).length→some (⟨w.heap.size,0,none⟩:Addr)=some ⟨w.heap.size,0,none⟩∧∃ad,a=some ad∧∀j v,(cellsOf xs)[j]? = some v→w1.cell? (ad.add j)=some v:=fun hp=>⟨rfl,SRC (by simpa using hp)⟩
 have HN:Hid _:=hn;have HF:Hid _:=hfit;have HP:Hid _:=hp0;have HF0:Hid _:=F0;clear hown hgrow hn hfit hp0 F0 SRC;go_wp2_with (refine wpList_copy_splice rfl (.tmp 7) (.tmp 8) 22 22 rfl 2 Tryz.underlying22 El (some ⟨w.heap.size,0,none⟩) a xs.length xs.length xs.length cap rfl rfl w.heap.size 0 (cellsOf (List.replicate xs.length 0)) 2 HF0.out (cellsOf xs) HN.out HP.out HF.out (ints_oneCell _ _) w.heap.size w B0 (Nat.le_refl _) ?_;intro w2 hF hB)
 have F2:Full w2 w.heap.size xs:=by
  have:=hF.out
  rw[A7 (by simp)]at this;exact this
 go_ret;exact⟨rfl,F2,hB⟩
end Go.Proofs.YtocidankimefpaaGreatDoor.rows
namespace Go.Proofs.YtocidankimefpaaGreatDoor.hp
open Go.Maps
def ends (nt:Int→Bool) (nx:Int→Int):Nat→Int→Bool
 |0,_=>false
 |n+1,p=>if nt p=true then ends nt nx n (nx p) else true
section
variable {nt:Int→Bool} {nx:Int→Int}
theorem qu:∀ {n:Nat} {p:Int},ends nt nx n p=true→ends nt nx (n+1) p=true
 |0,_,h=>by cases h
 |n+1,p,h=>by
  unfold ends at h ⊢;by_cases e:nt p=true
  ·rw[if_pos e]at h ⊢;exact qu h
  ·rw[if_neg e]
theorem Ci {n m:Nat} {p:Int} (h:ends nt nx n p=true) (hm:n≤m):ends nt nx m p=true:=by
 induction m with
 |zero=>obtain rfl:n=0:=by omega
        exact h
 |succ m ih=>
  by_cases e:n=m+1
  ·rw[←e];exact h
  ·exact qu (ih (by omega))
def sD (nt:Int→Bool) (nx:Int→Int) (p:Int):Prop:=∃n,ends nt nx n p=true
theorem Cj {p:Int} (h:nt p=true):sD nt nx p↔sD nt nx (nx p):=by
 constructor
 ·rintro⟨n,hn⟩;cases n with
  |zero=>cases hn
  |succ n=>unfold ends at hn;rw[if_pos h]at hn;exact⟨n,hn⟩
 ·rintro⟨n,hn⟩;exact⟨n+1,by unfold ends;rw[if_pos h];exact hn⟩
theorem vj {p:Int} (h:nt p=false):sD nt nx p:=⟨1,by unfold ends;rw[if_neg (by rw[h];decide)]⟩
def Fm (nt:Int→Bool) (nx:Int→Int):Nat→Int→Int→Prop
 |0,p,q=>p=q
 |n+1,p,q=>nt p=true∧Fm nt nx n (nx p) q
theorem me:∀ {n:Nat} {p q:Int},Fm nt nx n p q→(sD nt nx p↔sD nt nx q)
 |0,p,q,h=>by rw[show p=q from h]
 |n+1,p,q,h=>(Cj h.1).trans (me h.2)
theorem qv:∀ {n:Nat} {p q:Int},Fm nt nx n p q→nt q=true→Fm nt nx (n+1) p (nx q)
 |0,p,q,h,hq=>by rw[show p=q from h];exact⟨hq,rfl⟩
 |n+1,p,q,h,hq=>⟨h.1,qv h.2 hq⟩
theorem yQ:∀ {m n:Nat} {p q:Int},Fm nt nx m p q→ends nt nx n p=true→nt q=true→∃k,n=m+k∧ends nt nx k q=true
 |0,n,p,q,h,hn,_=>⟨n,by omega,by rw[←show p=q from h];exact hn⟩
 |m+1,n,p,q,h,hn,hq=>by
  cases n with
  |zero=>cases hn
  |succ n=>
   unfold ends at hn;rw[if_pos h.1]at hn;obtain⟨k,e,hk⟩:=yQ h.2 hn hq;exact⟨k,by omega,hk⟩
theorem Em {m:Nat} {p:Int} (h:Fm nt nx (m+1) p p):¬sD nt nx p:=by
 rintro⟨n,hn⟩;induction n using Nat.strongRecOn with
 |ind n ih=>
  obtain⟨k,e,hk⟩:=yQ h hn h.1;exact ih k (by omega) hk
theorem yR:∀ {l ps:List Int},l.Nodup→(∀x ∈ l,x ∈ ps)→l.length≤ps.length
 | [],_,_,_=>Nat.zero_le _
 |x :: l,ps,hn,hs=>by
  obtain⟨hx,hn⟩:=List.nodup_cons.1 hn;have hm:=hs x (List.mem_cons_self ..);have:=yR (l:=l) (ps:=ps.erase x) hn (fun y hy=>(List.mem_erase_of_ne (fun e=>hx (by rw[←e];exact hy))).2 (hs y (List.mem_cons_of_mem _ hy)))
  rw[List.length_erase_of_mem hm]at this;have:0<ps.length:=List.length_pos_of_mem hm
  simp only[List.length_cons];omega
theorem sE {ps:List Int} (hc:∀p ∈ ps,nt p=true→nx p ∈ ps):∀ {n:Nat} {p:Int},p ∈ ps→ends nt nx (n+1) p=true→ends nt nx n p=false→∃l:List Int,l.length=n+1∧l.Nodup∧(∀x ∈ l,x ∈ ps)∧∀x ∈ l,ends nt nx (n+1) x=true
 |0,p,hp,h,_=>⟨[p],rfl,by simp,by simpa using hp,by simpa using h⟩
 |n+1,p,hp,h,h0=>by
  have e:nt p=true:=by
   cases e:nt p
   ·unfold ends at h0;rw[if_neg (by rw[e];decide)]at h0;cases h0
   ·rfl
  have h1:ends nt nx (n+1) (nx p)=true:=by unfold ends at h;rw[if_pos e]at h;exact h
  have h2:ends nt nx n (nx p)=false:=by unfold ends at h0;rw[if_pos e]at h0;exact h0
  obtain⟨l,a,b,c,d⟩:=sE hc (hc p hp e) h1 h2;refine⟨p :: l,by simp[a],List.nodup_cons.2 ⟨fun hm => ?_,b⟩,?_,?_⟩
  ·rw[d p hm]at h0;cases h0
  ·intro x hx;rcases List.mem_cons.1 hx with rfl|hx
   ·exact hp
   ·exact c x hx
  ·intro x hx;rcases List.mem_cons.1 hx with rfl|hx
   ·exact h
   ·exact qu (d x hx)
theorem En {ps:List Int} (hc:∀p ∈ ps,nt p=true→nx p ∈ ps) {p:Int} (hp:p ∈ ps) (h:sD nt nx p):ends nt nx ps.length p=true:=by
 obtain⟨n,hn⟩:=h;induction n using Nat.strongRecOn with
 |ind n ih=>
  cases n with
  |zero=>cases hn
  |succ n=>
   cases e:ends nt nx n p
   ·obtain⟨l,a,b,c,_⟩:=sE hc hp hn e;have:=yR b c
    exact Ci hn (by omega)
   ·exact ih n (by omega) e
theorem yS {ps:List Int} (hc:∀p ∈ ps,nt p=true→nx p ∈ ps) {p:Int} (hp:p ∈ ps) {n:Nat} (hn:ps.length≤n):ends nt nx n p=true↔sD nt nx p:=⟨fun h=>⟨n,h⟩,fun h=>Ci (En hc hp h) hn⟩
end
abbrev kI (p:Int):Lit:=.int .i64 p
theorem sF (p:Int):WideAt.IsKeyLit (kI p):=by unfold WideAt.IsKeyLit;simp
theorem Ck {p q:Int} (h:p≠q):kI p≠kI q:=fun e=>h (by injection e)
abbrev nD (r:Int):DataW Unit:=.lit (.int .i64 r)
def Fo (L:List Int) (D:DataW Unit):Nat:=(L.filter (fun p => !Maps.has D (kI p))).length
theorem A8 (L:List Int):Fo L (.map [])=L.length:=by simp[Fo,Maps.has]
theorem qw {f g:Int→Bool} (h:∀x,g x=true→f x=true):∀l:List Int,(l.filter g).length≤(l.filter f).length
 | []=>Nat.le_refl _
 |x :: l=>by
  have:=qw h l
  cases e:g x
  ·rw[List.filter_cons_of_neg (by rw[e];decide)];cases e':f x
   ·rw[List.filter_cons_of_neg (by rw[e'];decide)];exact this
   ·rw[List.filter_cons_of_pos e'];simp only[List.length_cons];omega
  ·rw[List.filter_cons_of_pos e,List.filter_cons_of_pos (h x e)];simp only[List.length_cons];omega
theorem filter_one {f g:Int→Bool} (h:∀x,g x=true→f x=true) {y:Int} (hf:f y=true) (hg:g y=false):∀l:List Int,y ∈ l→(l.filter g).length+1≤(l.filter f).length
 | [],hy=>by simp at hy
 |x :: l,hy=>by
  by_cases e:x=y
  ·subst e;rw[List.filter_cons_of_neg (by rw[hg];decide),List.filter_cons_of_pos hf];have:=qw h l
   simp only[List.length_cons];omega
  ·have hl:y ∈ l:=by
     rcases List.mem_cons.1 hy with e'|e'
     ·exact absurd e'.symm e
     ·exact e'
   have:=filter_one h hf hg l hl
   cases e1:g x
   ·rw[List.filter_cons_of_neg (by rw[e1];decide)];cases e2:f x
    ·rw[List.filter_cons_of_neg (by rw[e2];decide)];exact this
    ·rw[List.filter_cons_of_pos e2];simp only[List.length_cons];omega
   ·rw[List.filter_cons_of_pos e1,List.filter_cons_of_pos (h x e1)];simp only[List.length_cons];omega
theorem Eo {L:List Int} {D:DataW Unit} (hD:Tidy D) {p:Int} (hp:p ∈ L) (hn:Maps.has D (kI p)=false) (d:DataW Unit):Fo L (D.put (kI p) d)+1≤Fo L D:=by
 unfold Fo;refine filter_one (fun x hx => ?_) (y:=p) (by rw[hn];rfl) (by rw[Maps.has_put_same hD.isMap (sF _)];rfl) L hp;by_cases e:x=p
 ·subst e;rw[Maps.has_put_same hD.isMap (sF _)]at hx;cases hx
 ·rwa [Maps.has_put_other (Ck e)]at hx
structure NE (nt:Int→Bool) (nx:Int→Int) (L:List Int) (k:Nat) (D:DataW Unit):Prop where
 tidy:Tidy D
 mem:∀q,Maps.has D (kI q)=true→q ∈ L
 val:∀q,Maps.has D (kI q)=true→∃r:Nat,r<k∧D.atKey (kI q) (nD 0)=nD r
 fin:∀q,Maps.has D (kI q)=true→sD nt nx q
structure NEi (nt:Int→Bool) (nx:Int→Int) (L:List Int) (k:Nat) (D:DataW Unit) (st cur:Int):Prop where
 tidy:Tidy D
 mem:∀q,Maps.has D (kI q)=true→q ∈ L
 val:∀q,Maps.has D (kI q)=true→∃r:Nat,r≤k∧D.atKey (kI q) (nD 0)=nD r∧(r<k→sD nt nx q)∧(r=k→∃m,Fm nt nx (m+1) q cur)
 path:∃m,Fm nt nx m st cur
section
variable {nt:Int→Bool} {nx:Int→Int} {L:List Int} {k:Nat} {D:DataW Unit} {st cur:Int}
theorem Ep:NE nt nx L 0 (.map []) where
 tidy:=Maps.tidy_empty
 mem:=fun q h=>by simp[Maps.has]at h
 val:=fun q h=>by simp[Maps.has]at h
 fin:=fun q h=>by simp[Maps.has]at h
theorem NE.Jc (h:NE nt nx L k D) (st:Int):NEi nt nx L k D st st where
 tidy:=h.tidy
 mem:=h.mem
 val:=fun q hq=>by
  obtain⟨r,hr,e⟩:=h.val q hq;exact⟨r,by omega,e,fun _=>h.fin q hq,fun e=>by omega⟩
 path:=⟨0,rfl⟩
theorem NEi.stop (h:NEi nt nx L k D st cur) (hf:sD nt nx cur):NE nt nx L (k+1) D∧sD nt nx st:=by
 refine⟨⟨h.tidy,h.mem,fun q hq => ?_,fun q hq => ?_⟩,?_⟩
 ·obtain⟨r,hr,e,_⟩:=h.val q hq;exact⟨r,by omega,e⟩
 ·obtain⟨r,hr,e,h1,h2⟩:=h.val q hq;by_cases hk:r=k
  ·obtain⟨m,hm⟩:=h2 hk;exact (me hm).2 hf
  ·exact h1 (by omega)
 ·obtain⟨m,hm⟩:=h.path;exact (me hm).2 hf
theorem Cl {a b:Int} (h:nD a=nD b):a=b:=by injection h with h;injection h
theorem NEi.round (h:NEi nt nx L k D st cur) (hh:Maps.has D (kI cur)=true) (hv:D.atKey (kI cur) (nD 0)=nD k):¬sD nt nx st:=by
 obtain⟨r,hr,e,_,h2⟩:=h.val cur hh;have e':=Cl (e.symm.trans hv);obtain⟨m,hm⟩:=h2 (by omega);obtain⟨m',hp⟩:=h.path;exact fun hf=>Em hm ((me hp).1 hf)
theorem NEi.old (h:NEi nt nx L k D st cur) (hh:Maps.has D (kI cur)=true) {c:Int} (hv:D.atKey (kI cur) (nD 0)=nD c) (hc:c≠k):sD nt nx cur:=by
 obtain⟨r,hr,e,h1,_⟩:=h.val cur hh;have e':=Cl (e.symm.trans hv);exact h1 (by omega)
theorem NEi.step (h:NEi nt nx L k D st cur) (hm:cur ∈ L) (hn:nt cur=true):NEi nt nx L k (D.put (kI cur) (nD k)) st (nx cur):=by
 refine⟨h.tidy.put (sF _) _,fun q hq => ?_,fun q hq => ?_,?_⟩
 ·by_cases e:q=cur
  ·rw[e];exact hm
  ·rw[Maps.has_put_other (Ck e)]at hq;exact h.mem q hq
 ·by_cases e:q=cur
  ·subst e;exact⟨k,Nat.le_refl _,Maps.atKey_put_same h.tidy.isMap (sF _) _ _,fun e=>by omega,fun _=>⟨0,hn,rfl⟩⟩
  ·rw[Maps.has_put_other (Ck e)]at hq;obtain⟨r,hr,e1,h1,h2⟩:=h.val q hq;refine⟨r,hr,(Maps.atKey_put_other (Ck e) _ _).trans e1,h1,fun ek => ?_⟩
   obtain⟨m,hg⟩:=h2 ek;exact⟨m+1,qv hg hn⟩
 ·obtain⟨m,hp⟩:=h.path;exact⟨m+1,qv hp hn⟩
end
end Go.Proofs.YtocidankimefpaaGreatDoor.hp
namespace Go.Proofs.YtocidankimefpaaGreatDoor.region
open Go Go.RowKit
theorem A9 {P:Program} {o:Oper} {a:Act} {w w':World} {K:Act→World→Prop} {Q:Exit→Act→World→Prop} (h:(execOp a.eval o).run P w = .ok .skip w') (hk:K (a.put o.dst undef) w'):o.wp P a w K Q:=Ek h hk
section
variable {P:Program} {ops:Array Oper} {o:Oper} {D:Nat→Bool} {a0:Act} {u:Nat→Value} {W:World} {Q:Exit→Act→World→Prop} {R:World→World→Prop} {F:Value→World→Prop} {dk:Nat}
end
section
variable {P:Program} {o:Oper} {D:Nat→Bool} {a0:Act} {u:Nat→Value} {W:World} {Q:Exit→Act→World→Prop} {F:Value→World→Prop} {dk:Nat}
theorem fI {v:Value} (hd:o.dst=some dk) (hD:D dk=true) (hrun:(execOp (ovr D a0 u).eval o).run P W = .ok (.value v) W) (hF:F v W) :
    o.wp P (ovr D a0 u) W (fun a' W'=>∃v,a'=ovr D a0 (upd u dk v)∧Below W.heap.size W W'∧F v W') Q:=aA hrun ⟨v,aF hd hD u v,Below.refl _ _,hF⟩
theorem Fp {f:FuncId} {args:Array Value} (hd:o.dst=some dk) (hD:D dk=true) (hrun:(execOp (ovr D a0 u).eval o).run P W = .ok (.enter f args) W) (hc:Calls P f args W fun e w'=>∃v,e = .returned v∧Below W.heap.size W w'∧F v w') :
    o.wp P (ovr D a0 u) W (fun a' W'=>∃v,a'=ovr D a0 (upd u dk v)∧Below W.heap.size W W'∧F v W') Q:=iG hrun (hc.mono fun _ _ ⟨v,he,h1,h2⟩=>⟨v,he,v,aF hd hD u v,h1,h2⟩)
theorem mj {W':World} (hd:o.dst=none) (hrun:(execOp (ovr D a0 u).eval o).run P W = .ok .skip W') (hQ:Q .normal (ovr D a0 u) W') :
    o.wp P (ovr D a0 u) W (fun a' W'=>∃u',a'=ovr D a0 u'∧Q .normal (ovr D a0 u') W') Q:=A9 hrun ⟨u,I3 hd u undef,hQ⟩
end
end Go.Proofs.YtocidankimefpaaGreatDoor.region
namespace Go.Proofs.YtocidankimefpaaGreatDoor.gr
open Go.RowKit rows
abbrev Rf:=Int×Int
abbrev bU:Rf:=(0,0)
def cellsR:List Rf→List Value
 | []=>[]
 |e :: es => .int .i64 e.1 :: .int .i64 e.2 :: cellsR es
theorem bV:∀es:List Rf,(cellsR es).length=es.length*2
 | []=>rfl
 |_ :: es=>by simp[cellsR,bV es];omega
theorem eC:∀es fs:List Rf,cellsR (es++fs)=cellsR es++cellsR fs
 | [],_=>rfl
 |_ :: es,fs=>by simp[cellsR,eC es fs]
theorem qx:∀(es:List Rf) (i:Nat),i<es.length→(cellsR es)[i*2]? = some (.int .i64 (es.getD i bU).1)∧(cellsR es)[i*2+1]? = some (.int .i64 (es.getD i bU).2)
 | [],_,h=>by simp at h
 |e :: es,0,_=>by simp[cellsR]
 |e :: es,i+1,h=>by
  have:=qx es i (by simpa using h)
  rw[show (i+1)*2=i*2+1+1 by omega];simpa [cellsR] using this
theorem fQ:∀es:List Rf,∀v ∈ cellsR es,v.oneCell'=true
 | [],v,h=>by simp[cellsR]at h
 |e :: es,v,h=>by
  simp only[cellsR,List.mem_cons]at h;rcases h with rfl|rfl|h
  ·rfl
  ·rfl
  ·exact fQ es v h
def cM (w:World) (v:Value) (es:List Rf):Prop:=
 ∃a cap,v = .slice a es.length cap∧es.length≤cap∧cap≤maxLen∧(a=none→cap=0) ∧
  (0<es.length→∃b off,a=some ⟨b,off,none⟩∧b<w.heap.size∧∀i,i<es.length→w.cell? ⟨b,off+i*2,none⟩=some (.int .i64 (es.getD i bU).1)∧w.cell? ⟨b,off+i*2+1,none⟩=some (.int .i64 (es.getD i bU).2))
theorem aU {w w':World} {v:Value} {es:List Rf} (h:cM w v es) (hb:Below w.heap.size w w'):cM w' v es:=by
 obtain⟨a,cap,rfl,h1,h2,h4,h3⟩:=h;refine⟨a,cap,rfl,h1,h2,h4,fun hp => ?_⟩
 obtain⟨b,off,rfl,hlt,hc⟩:=h3 hp;exact⟨b,off,rfl,Nat.lt_of_lt_of_le hlt hb.size,fun i hi=>⟨(hb.cell (p:=⟨b,off+i*2,none⟩) hlt).trans (hc i hi).1,(hb.cell (p:=⟨b,off+i*2+1,none⟩) hlt).trans (hc i hi).2⟩⟩
def fJ (w:World) (base:Nat) (v:Value) (es:List Rf):Prop:=w.ownsRow base 63 2 v es.length (cellsR es)
theorem cB {w:World} {base:Nat} {v:Value} {es:List Rf} (h:fJ w base v es):cM w v es:=by
 have h':=h;obtain⟨_,⟨rfl,hn⟩|⟨g,cap,cur,rfl,hg,hh,hle,hm,hs,ht⟩⟩:=h
 ·have:es=[]:=by simpa using hn
  subst this;exact⟨none,0,rfl,by simp,by decide,fun _=>rfl,fun hp=>absurd hp (by simp)⟩
 ·refine⟨_,cap,rfl,hle,hm,fun h=>(by cases h),fun hp=>⟨g,0,rfl,lt_of_block hh,fun i hi => ?_⟩⟩
  have c:=qx es i hi;have a0:=World.ownsRow.cellAt h' (i*2) (by omega);have a1:=World.ownsRow.cellAt h' (i*2+1) (by omega);rw[Nat.zero_add,a0,a1];exact c
theorem qy {w:World} {base base':Nat} {v:Value} {es:List Rf} (h:fJ w base v es) (hb:base'≤base):fJ w base' v es:=by
 obtain⟨h0,⟨h1,h2⟩|⟨g,cap,cur,h1,hg,hh,hle,hm,hs,ht⟩⟩:=h
 ·exact⟨h0,.inl ⟨h1,h2⟩⟩
 ·exact⟨h0,.inr ⟨g,cap,cur,h1,Nat.le_trans hb hg,hh,hle,hm,hs,ht⟩⟩
theorem fc {w w':World} {base:Nat} {v:Value} {es:List Rf} (h:fJ w base v es) (hb:Below w.heap.size w w'):fJ w' base v es:=by
 obtain⟨h0,⟨h1,h2⟩|⟨g,cap,cur,h1,hg,hh,hle,hm,hs,ht⟩⟩:=h
 ·exact⟨h0,.inl ⟨h1,h2⟩⟩
 ·exact⟨h0,.inr ⟨g,cap,cur,h1,hg,(hb.block g (lt_of_block hh)).trans hh,hle,hm,hs,ht⟩⟩
theorem kK (w:World) (base:Nat):fJ w base (.slice none 0 0) []:=World.ownsRow_nil _ _ _ _
def I5 (w:World) (b:Nat) (es:List Rf):Prop:=w.heap[b]? = some (.cells (cellsR es).toArray 63 (0,0))
theorem vk {w:World} {b base:Nat} {es:List Rf} (h:I5 w b es) (hb:base≤b) (hm:es.length≤maxLen):fJ w base (.slice (some ⟨b,0,none⟩) es.length es.length) es:=
 ⟨bV es,.inr ⟨b,es.length,_,rfl,hb,h,Nat.le_refl _,hm,by simp[bV],List.take_of_length_le (by simp[bV])⟩⟩
abbrev rv (e:Rf):Value:=.agg #[.int .i64 e.1,.int .i64 e.2]
abbrev rb (e:Rf):Obj:=.cells #[.int .i64 e.1,.int .i64 e.2] 63
theorem Aa:(Tryz.prog.info? 63).map (fun i=>(i.zero,i.size,i.bytes))=some (some (.agg #[.int .i64 0,.int .i64 0]),2,16):=by kernel_rfl
theorem sG:∀(es:List Rf) (i:Nat) (e:Rf),((cellsR es).set (i*2) (.int .i64 e.1)).set (i*2+1) (.int .i64 e.2)=cellsR (es.set i e)
 | [],i,e=>by simp[cellsR]
 |d :: es,0,e=>by simp[cellsR]
 |d :: es,i+1,e=>by
  rw[show (i+1)*2=i*2+1+1 by omega];simp[cellsR,sG es i e]
def Cm (k:Nat) (n:Nat):List Rf:=(List.range n).map (fun i:Nat=>(((k+2*i:Nat):Int),((k+2*i+1:Nat):Int)))
theorem bW {w w':World} {base size n:Nat} {t:TypeId} {v:Value} {xs:List Value} (h:w.ownsRow base t size v n xs) (hb:Below w.heap.size w w'):w'.ownsRow base t size v n xs:=by
 obtain⟨h0,⟨h1,h2⟩|⟨g,cap,cur,h1,hg,hh,hle,hm,hs,ht⟩⟩:=h
 ·exact⟨h0,.inl ⟨h1,h2⟩⟩
 ·exact⟨h0,.inr ⟨g,cap,cur,h1,hg,(hb.block g (lt_of_block hh)).trans hh,hle,hm,hs,ht⟩⟩
structure Ob where
 id:Int
 cls:Int
 fmt:Int
 hash:Int
 slots:List Rf
structure MO where
 id:Int
 cls:Int
 fmt:Int
 hash:Int
 sv:Value
 slots:List Rf
def MO.abs (m:MO):Ob:=⟨m.id,m.cls,m.fmt,m.hash,m.slots⟩
abbrev moD:MO:=⟨0,0,0,0,.slice none 0 0,[]⟩
abbrev obD:Ob:=⟨0,0,0,0,[]⟩
theorem fo (ms:List MO) (i:Nat):(ms.map MO.abs).getD i obD=(ms.getD i moD).abs:=by
 rw[List.getD_eq_getElem?_getD,List.getD_eq_getElem?_getD,List.getElem?_map];cases ms[i]? <;> rfl
def cellsO:List MO→List Value
 | []=>[]
 |m :: ms => .int .i64 m.id :: .int .i64 m.cls :: .int .i64 m.fmt :: .int .i64 m.hash :: m.sv :: cellsO ms
theorem jm:∀ms:List MO,(cellsO ms).length=ms.length*5
 | []=>rfl
 |_ :: ms=>by simp[cellsO,jm ms];omega
theorem mq:∀ms ns:List MO,cellsO (ms++ns)=cellsO ms++cellsO ns
 | [],_=>rfl
 |_ :: ms,ns=>by simp[cellsO,mq ms ns]
theorem vq:∀(ms:List MO) (i:Nat),i<ms.length→(cellsO ms)[i*5]? = some (.int .i64 (ms.getD i moD).id)∧(cellsO ms)[i*5+1]? = some (.int .i64 (ms.getD i moD).cls)∧(cellsO ms)[i*5+2]? = some (.int .i64 (ms.getD i moD).fmt)∧(cellsO ms)[i*5+3]? = some (.int .i64 (ms.getD i moD).hash)∧(cellsO ms)[i*5+4]? = some (ms.getD i moD).sv
 | [],_,h=>by simp at h
 |e :: ms,0,_=>by simp[cellsO]
 |e :: ms,i+1,h=>by
  have:=vq ms i (by simpa using h)
  rw[show (i+1)*5=i*5+1+1+1+1+1 by omega];simpa [cellsO] using this
def Slices (ms:List MO):Prop:=∀m ∈ ms,∃a n c,m.sv = .slice a n c
theorem nJ:∀ {ms:List MO},Slices ms→∀v ∈ cellsO ms,v.oneCell'=true
 | [],_,v,h=>by simp[cellsO]at h
 |m :: ms,hs,v,h=>by
  simp only[cellsO,List.mem_cons]at h;rcases h with rfl|rfl|rfl|rfl|rfl|h
  ·rfl
  ·rfl
  ·rfl
  ·rfl
  ·obtain⟨a,n,c,e⟩:=hs m (List.mem_cons_self ..);rw[e];rfl
  ·exact nJ (fun m' hm=>hs m' (List.mem_cons_of_mem _ hm)) v h
def jC (w:World) (v:Value) (ms:List MO):Prop:=
 ∃a cap,v = .slice a ms.length cap∧ms.length≤cap∧cap≤maxLen∧(a=none→cap=0) ∧
  (0<ms.length→∃b off,a=some ⟨b,off,none⟩∧b<w.heap.size∧∀i,i<ms.length→w.cell? ⟨b,off+i*5,none⟩=some (.int .i64 (ms.getD i moD).id)∧w.cell? ⟨b,off+i*5+1,none⟩=some (.int .i64 (ms.getD i moD).cls)∧w.cell? ⟨b,off+i*5+2,none⟩=some (.int .i64 (ms.getD i moD).fmt)∧w.cell? ⟨b,off+i*5+3,none⟩=some (.int .i64 (ms.getD i moD).hash)∧w.cell? ⟨b,off+i*5+4,none⟩=some (ms.getD i moD).sv)
theorem cC {w w':World} {v:Value} {ms:List MO} (h:jC w v ms) (hb:Below w.heap.size w w'):jC w' v ms:=by
 obtain⟨a,cap,rfl,h1,h2,h4,h3⟩:=h;refine⟨a,cap,rfl,h1,h2,h4,fun hp => ?_⟩
 obtain⟨b,off,rfl,hlt,hc⟩:=h3 hp;refine⟨b,off,rfl,Nat.lt_of_lt_of_le hlt hb.size,fun i hi => ?_⟩
 obtain⟨c0,c1,c2,c3,c4⟩:=hc i hi;exact⟨(hb.cell (p:=⟨b,off+i*5,none⟩) hlt).trans c0,(hb.cell (p:=⟨b,off+i*5+1,none⟩) hlt).trans c1,(hb.cell (p:=⟨b,off+i*5+2,none⟩) hlt).trans c2,(hb.cell (p:=⟨b,off+i*5+3,none⟩) hlt).trans c3,(hb.cell (p:=⟨b,off+i*5+4,none⟩) hlt).trans c4⟩
def qz (w:World) (v:Value) (ms:List MO):Prop:=jC w v ms∧∀m ∈ ms,cM w m.sv m.slots
theorem jT {w w':World} {v:Value} {ms:List MO} (h:qz w v ms) (hb:Below w.heap.size w w'):qz w' v ms:=⟨cC h.1 hb,fun m hm=>aU (h.2 m hm) hb⟩
theorem cO {w:World} {v:Value} {es:List Rf} (h:cM w v es):∃a n c,v = .slice a n c:=by
 obtain⟨a,cap,e,_⟩:=h;exact⟨a,_,cap,e⟩
theorem fP {w:World} {v:Value} {ms:List MO} (h:qz w v ms):Slices ms:=fun m hm=>cO (h.2 m hm)
theorem cZ {ms:List MO} {i:Nat} (h:i<ms.length):ms.getD i moD ∈ ms:=by
 rw[List.getD_eq_getElem?_getD,List.getElem?_eq_getElem h];exact List.getElem_mem h
def lp (w:World) (base:Nat) (v:Value) (ms:List MO):Prop:=w.ownsRow base 60 5 v ms.length (cellsO ms)
theorem Cn {w:World} {base:Nat} {v:Value} {ms:List MO} (h:lp w base v ms):jC w v ms:=by
 have h':=h;obtain⟨_,⟨rfl,hn⟩|⟨g,cap,cur,rfl,hg,hh,hle,hm,hs,ht⟩⟩:=h
 ·have:ms=[]:=by simpa using hn
  subst this;exact⟨none,0,rfl,by simp,by decide,fun _=>rfl,fun hp=>absurd hp (by simp)⟩
 ·refine⟨_,cap,rfl,hle,hm,fun h=>(by cases h),fun hp=>⟨g,0,rfl,lt_of_block hh,fun i hi => ?_⟩⟩
  obtain⟨c0,c1,c2,c3,c4⟩:=vq ms i hi;have a0:=World.ownsRow.cellAt h' (i*5) (by omega);have a1:=World.ownsRow.cellAt h' (i*5+1) (by omega);have a2:=World.ownsRow.cellAt h' (i*5+2) (by omega);have a3:=World.ownsRow.cellAt h' (i*5+3) (by omega);have a4:=World.ownsRow.cellAt h' (i*5+4) (by omega);rw[Nat.zero_add,a0,a1,a2,a3,a4];exact⟨c0,c1,c2,c3,c4⟩
def blk (v:Value):List Nat:=v.ownBlock.toList
def gD (ms:List MO):List Nat:=ms.flatMap (fun m=>blk m.sv)
def Er (w:World) (base:Nat) (v:Value) (ms:List MO):Prop:=lp w base v ms∧(∀m ∈ ms,fJ w base m.sv m.slots)∧(blk v++gD ms).Nodup
theorem jU {w:World} {base:Nat} {v:Value} {ms:List MO} (h:Er w base v ms):qz w v ms:=⟨Cn h.1,fun m hm=>cB (h.2.1 m hm)⟩
theorem Ab {w w':World} {base:Nat} {v:Value} {ms:List MO} (h:Er w base v ms) (hb:Below w.heap.size w w'):Er w' base v ms:=⟨bW h.1 hb,fun m hm=>fc (h.2.1 m hm) hb,h.2.2⟩
theorem xF {w:World} {base base':Nat} {v:Value} {ms:List MO} (h:lp w base v ms) (hb:base'≤base):lp w base' v ms:=by
 obtain⟨h0,⟨h1,h2⟩|⟨g,cap,cur,h1,hg,hh,hle,hm,hs,ht⟩⟩:=h
 ·exact⟨h0,.inl ⟨h1,h2⟩⟩
 ·exact⟨h0,.inr ⟨g,cap,cur,h1,Nat.le_trans hb hg,hh,hle,hm,hs,ht⟩⟩
theorem Co {w:World} {base base':Nat} {v:Value} {ms:List MO} (h:Er w base v ms) (hb:base'≤base):Er w base' v ms:=⟨xF h.1 hb,fun m hm=>qy (h.2.1 m hm) hb,h.2.2⟩
structure Ch (S:List Nat) (w w':World):Prop where
 os:w'.os=w.os
 tape:w'.tape=w.tape
 output:w'.output=w.output
 size:w.heap.size≤w'.heap.size
 block:∀k,k<w.heap.size→k ∉ S→w'.heap[k]? = w.heap[k]?
theorem Ch.refl (S:List Nat) (w:World):Ch S w w:=⟨rfl,rfl,rfl,Nat.le_refl _,fun _ _ _=>rfl⟩
theorem Ch.trans {S:List Nat} {a b c:World} (h:Ch S a b) (k:Ch S b c):Ch S a c:=
 ⟨k.os.trans h.os,k.tape.trans h.tape,k.output.trans h.output,Nat.le_trans h.size k.size,fun i hi hn=>(k.block i (Nat.lt_of_lt_of_le hi h.size) hn).trans (h.block i hi hn)⟩
theorem Ch.mono {S T:List Nat} {a b:World} (h:Ch S a b) (hs:∀k ∈ S,k ∈ T):Ch T a b:=⟨h.os,h.tape,h.output,h.size,fun k hk hn=>h.block k hk (fun e=>hn (hs k e))⟩
theorem cJ {a b:World} {v:Value} (h:a.grownBy b v.ownBlock):Ch (blk v) a b:=⟨h.os,h.tape,h.output,h.size,fun k hk hn=>h.block k hk (fun e=>hn (by unfold blk;rw[←e];simp))⟩
theorem bu {S:List Nat} {a b:World} (h:Below a.heap.size a b):Ch S a b:=⟨h.os,h.tape,h.output,h.size,fun k hk _=>h.block k hk⟩
theorem bn {S:List Nat} {B:Nat} {a b:World} (h:Ch S a b) (hb:B≤a.heap.size) (hs:∀k ∈ S,B≤k):Below B a b:=⟨h.os,h.tape,h.output,h.size,fun k hk=>h.block k (by omega) (fun e=>by have:=hs k e;omega)⟩
theorem aE {S:List Nat} {w w':World} {base size n:Nat} {t:TypeId} {v:Value} {xs:List Value} (h:w.ownsRow base t size v n xs) (hc:Ch S w w') (hd:∀k ∈ blk v,k ∉ S):w'.ownsRow base t size v n xs:=by
 obtain⟨h0,⟨h1,h2⟩|⟨g,cap,cur,h1,hg,hh,hle,hm,hs,ht⟩⟩:=h
 ·exact⟨h0,.inl ⟨h1,h2⟩⟩
 ·refine⟨h0,.inr ⟨g,cap,cur,h1,hg,(hc.block g (lt_of_block hh) (hd g ?_)).trans hh,hle,hm,hs,ht⟩⟩
  rw[h1];simp[blk,Value.ownBlock]
theorem qA {S:List Nat} {w w':World} {base:Nat} {v:Value} {ms:List MO} (h:Er w base v ms) (hc:Ch S w w') (hd:∀k ∈ blk v++gD ms,k ∉ S):Er w' base v ms:=
 ⟨aE h.1 hc (fun k hk=>hd k (by simp[hk])),fun m hm=>aE (h.2.1 m hm) hc (fun k hk=>hd k (by simp only[gD,List.mem_append,List.mem_flatMap];exact .inr ⟨m,hm,hk⟩)),h.2.2⟩
theorem aM {w:World} {base n size:Nat} {t:TypeId} {v:Value} {xs:List Value} (h:w.ownsRow base t size v n xs):∀k ∈ blk v,base≤k∧k<w.heap.size:=fun k hk=>World.ownsRow.lt h k (by unfold blk at hk;exact Option.mem_toList.1 hk)
theorem Cp {w:World} {base:Nat} {v:Value} {ms:List MO} (h:Er w base v ms):∀k ∈ blk v++gD ms,base≤k∧k<w.heap.size:=by
 intro k hk;rw[List.mem_append]at hk;rcases hk with hk|hk
 ·exact aM h.1 k hk
 ·simp only[gD,List.mem_flatMap]at hk;obtain⟨m,hm,hk⟩:=hk;exact aM (h.2.1 m hm) k hk
abbrev ov (m:MO):Value:=.agg #[.int .i64 m.id,.int .i64 m.cls,.int .i64 m.fmt,.int .i64 m.hash,m.sv]
abbrev ob (m:MO):Obj:=.cells #[.int .i64 m.id,.int .i64 m.cls,.int .i64 m.fmt,.int .i64 m.hash,m.sv] 60
theorem jV {w:World} {ad:Addr} {n cap:Nat} {es:List Rf} (h:cM w (.slice (some ad) n cap) es):∀j u,(cellsR es)[j]? = some u→w.cell? (ad.add j)=some u:=by
 intro j u hj;obtain⟨a',cap',e,_,_,_,hc⟩:=h;injection e with e1 e2 e3
 subst e1
 have hlt:j<es.length*2:=by
  have:=(List.getElem?_eq_some_iff.1 hj).1
  rw[bV]at this;exact this
 obtain⟨b,off,e1,_,hcc⟩:=hc (by omega);injection e1 with e1
 subst e1;have hc:=hcc (j / 2) (by omega);have ca:=qx es (j / 2) (by omega);have hadd:(⟨b,off,none⟩:Addr).add j=⟨b,off+j,none⟩:=by unfold Addr.add;split<;>simp_all
 rw[hadd];rcases Nat.mod_two_eq_zero_or_one j with hm|hm
 ·have ej:j=j / 2*2:=by omega
  rw[←ej]at hc ca;rw[ca.1]at hj;rw[←hj];exact hc.1
 ·have ej:j=j / 2*2+1:=by omega
  have e2:off+j=off+j / 2*2+1:=by omega
  rw[←ej]at ca;rw[ca.2]at hj;rw[←hj,e2];exact hc.2
theorem jn {w:World} {a:Option Addr} {n cap:Nat} {es:List Rf} (h:cM w (.slice a n cap) es):es.length=n∧(a=none→n=0):=by
 obtain⟨a',cap',e,h1,_,h2,_⟩:=h;injection e with e1 e2 e3
 subst e1 e2 e3;exact⟨rfl,fun ha=>by have:=h2 ha;omega⟩
theorem Es {w:World} {a:Option Addr} {n cap:Nat} {es:List Rf} (h:cM w (.slice a n cap) es):Src Tryz.prog 2 48 (.slice a n cap) n (cellsR es) w:=by
 obtain⟨hl,hz⟩:=jn h;cases a with
 |none=>
  have hn:=hz rfl;have e:es=[]:=List.eq_nil_of_length_eq_zero (by omega);subst e hn;exact⟨.inl ⟨_,Tryz.underlying48⟩,fun w'=>by simp[Builtin.lenOf],by simp[Builtin.firstCells,cellsR],by simp[Builtin.firstCells,cellsR],by simp[cellsR],fun u hu=>by simp[cellsR]at hu⟩
 |some ad=>
  have hc:(cellsR es).length=n*2:=by rw[bV,hl]
  exact⟨.inl ⟨_,Tryz.underlying48⟩,fun w'=>by simp[Builtin.lenOf],run_firstCells_some w 2 n ad n cap (cellsR es) hc (jV h),run_firstCells_some w.drew 2 n ad n cap (cellsR es) hc (jV (w:=w.drew) h),hc,fQ es⟩
theorem Et {w:World} {g:Nat} {a:Option Addr} {n cap:Nat} {es:List Rf} (h:cM w (.slice a n cap) es) (hl:n≤1048576) (hg:w.heap[g]? = some (.cells #[] 63 (0,0))) (ty:TypeId) :
    ∃(q c:Nat) (w':World),(Builtin.append_ #[48,48] ty #[.slice (some ⟨g,0,none⟩) 0 0,.slice a n cap]).run Tryz.prog w = .ok (.slice (some ⟨q,0,none⟩) n c) w'∧(q=g∨w.heap.size≤q)∧(∀base,base≤q→fJ w' base (.slice (some ⟨q,0,none⟩) n c) es)∧Below w.heap.size w w':=by
 obtain⟨i0,hi,hz0,hz1,hz2⟩:=info_parts Aa;have S:=Es h;obtain⟨hlen,_⟩:=jn h
 have ho:∀ {w':World} {q c base:Nat} (cur:Array Value),base≤q→w'.heap[q]? = some (.cells cur 63 (0,0))→n≤c→c≤maxLen→cur.size=c*2→cur.toList.take (n*2)=cellsR es→fJ w' base (.slice (some ⟨q,0,none⟩) n c) es:=by
  intro w' q c base cur h1 h2 h3 h4 h5 h6;unfold fJ;rw[hlen];exact⟨by rw[bV,hlen],.inr ⟨q,c,cur,rfl,h1,h2,h3,h4,h5,h6⟩⟩
 rcases Nat.eq_zero_or_pos n with h0|hp
 ·subst h0;have e:es=[]:=List.eq_nil_of_length_eq_zero hlen;subst e;have hr:=run_append_nothing w 48 48 ty 63 i0 Tryz.underlying48 hi (some ⟨g,0,none⟩) 0 0 (Nat.le_refl _) (.slice a 0 cap) (by rw[hz1];exact S);exact⟨g,0,w,hr,.inl rfl,fun base hb=>ho #[] hb hg (Nat.le_refl _) (by decide) rfl rfl,Below.refl _ _⟩
 ·have hold:(Builtin.firstCells i0.size 0 (.slice (some ⟨g,0,none⟩) 0 0)).run Tryz.prog w.drew = .ok ([]:List Value).toArray w.drew:=run_firstCells_some w.drew i0.size 0 ⟨g,0,none⟩ 0 0 [] (by simp) (fun j v hj=>by simp at hj);have hr:=run_append_grow_src w 48 48 ty 63 i0 (.agg #[.int .i64 0,.int .i64 0]) Tryz.underlying48 hi hz0 (some ⟨g,0,none⟩) 0 0 [] hold (.slice a n cap) n (cellsR es) (by rw[hz1];exact S) (by omega) (by omega) (by rw[hz2];exact growslice_fits (by omega) (by omega));have hge:=grownCap_ge w (0+n) 0 63;have hcm:grownCap w (0+n) 0 63≤maxLen:=grownCap_le_maxLen w (0+n) 0 63 (by unfold maxLen;omega);rw[Nat.zero_add]at hr hge hcm;refine⟨w.heap.size,_,_,hr,.inr (Nat.le_refl _),fun base hb=>ho _ hb (heap_alloc_new w.drew _) hge hcm ?_ ?_,⟨rfl,rfl,rfl,by simp,fun j hj=>Below.heap_alloc w.drew _ j hj⟩⟩
  ·simp[Builtin.zeroCells,Value.cells,bV,hlen];omega
  ·simp only[List.nil_append,Array.toList_append];exact List.take_left' (by rw[bV,hlen])
end Go.Proofs.YtocidankimefpaaGreatDoor.gr
namespace Go.Proofs.YtocidankimefpaaGreatDoor.region
open Go
theorem xG {ops:Array Oper} {l:Array Bool} (hacyc:∀(k:Nat) (o:Oper),ops[k]? = some o→∀e ∈ o.after,Region.binds .any e=true→e.on<k) (hl:l.size=ops.size) (h:Region.ready .any ops l=[]):∀k,k<ops.size→l.getD k false=true:=by
 intro k;induction k using Nat.strongRecOn with
 |ind k ih=>
  intro hk;have hl':k<l.size:=by omega
  cases hv:l.getD k false with
  |true=>rfl
  |false=>
   have h1:l.getD k true=false:=by
    simp only[Array.getD,hl',dite_true]at hv ⊢;exact hv
   have:k ∈ Region.ready .any ops l:=mem_ready.2 ⟨h1,ops[k],Array.getElem?_eq_getElem hk,fun e he hb=>ih e.on (hacyc k _ (Array.getElem?_eq_getElem hk) e he hb) (by have:=hacyc k _ (Array.getElem?_eq_getElem hk) e he hb;omega)⟩
   rw[h]at this;cases this
theorem gd {P:Program} {id:Nat} {ops:Array Oper} {Q:Exit→Act→World→Prop} {a0:Act} {w:World} (hm:P.follows .mixedOrders=true) (D:Nat→Bool)
    (hg:∀o ∈ ops,o.guard=none) (hacyc:∀(k:Nat) (o:Oper),ops[k]? = some o→∀e ∈ o.after,Region.binds .any e=true→e.on<k)
    (I:Array Bool→(Nat→Value)→World→Prop)
    (start:I (Array.replicate ops.size false) (fun s=>a0.tmps.getD s undef) w.drew)
    (fin:∀l u w,I l u w→(∀k,k<ops.size→l.getD k false=true)→Q .normal (ovr D a0 u) w)
    (stp:∀l u w k o,I l u w→l.size=ops.size→l.getD k false=false→ops[k]? = some o→(∀e ∈ o.after,Region.binds .any e=true→l.getD e.on false=true) →
     o.wp P (ovr D a0 u) w (fun a' w'=>∃u',a'=ovr D a0 u'∧I (l.setIfInBounds k true) u' w') Q):(Code.region id ops true).wp P Q a0 w:=by
 refine lZ hm (fun l a w=>l.size=ops.size∧∃u,a=ovr D a0 u∧I l u w) ⟨by simp,_,(tG D a0).symm,start⟩ ?_ ?_
 ·rintro l a w ⟨hl,u,rfl,h⟩ hr;exact fin l u w h (xG hacyc hl hr)
 ·rintro l a w i ⟨hl,u,rfl,h⟩ hi;obtain⟨h1,o,ho,hd⟩:=mem_ready.1 hi;have hi':i<ops.size:=(Array.getElem?_eq_some_iff.1 ho).1
  have h1':l.getD i false=false:=by
   have hl':i<l.size:=by omega
   simp only[Array.getD,hl',dite_true]at h1 ⊢;exact h1
  have hgo:=hg o (Array.mem_of_getElem? ho);unfold wpOp;rw[ho];simp only;rw[if_pos (by simp[Region.wanted,hgo])];refine .inl (Oper.wp_mono (fun a' w' h' => ?_) (stp l u w i o h hl h1' ho hd));obtain⟨u',e,h'⟩:=h';exact⟨by simpa using hl,u',e,h'⟩
theorem bg {P:Program} {o:Oper} {D:Nat→Bool} {a0:Act} {u:Nat→Value} {W:World} {Q:Exit→Act→World→Prop} {F:Value→Prop} {dk:Nat} {v:Value} (hd:o.dst=some dk) (hD:D dk=true) (hrun:(execOp (ovr D a0 u).eval o).run P W = .ok (.value v) W) (hF:F v) :
    o.wp P (ovr D a0 u) W (fun a' W'=>∃v,a'=ovr D a0 (upd u dk v)∧W'=W∧F v) Q:=aA hrun ⟨v,aF hd hD u v,rfl,hF⟩
theorem gZ (u:Nat→Value) (d:Nat) (v:Value):upd u d v d=v:=by simp[upd]
theorem yT {u:Nat→Value} {d c:Nat} {v:Value} (h:c≠d):upd u d v c=u c:=by simp[upd,h]
theorem fq {P:Program} {id:Nat} {ops:Array Oper} {Q:Exit→Act→World→Prop} {a0:Act} {w:World} (hm:P.follows .mixedOrders=true) (D:Nat→Bool)
    (hg:∀o ∈ ops,o.guard=none) (hacyc:∀(k:Nat) (o:Oper),ops[k]? = some o→∀e ∈ o.after,Region.binds .any e=true→e.on<k) (n c1 c2 c3:Nat) (hn:ops.size=n+1) (h1n:c1<n) (h2n:c2<n) (h3n:c3<n) (h12:c1≠c2) (h13:c1≠c3) (h23:c2≠c3) (dst:Nat→Nat) (hinj:∀k,k<n→∀j,j<n→dst j=dst k→j=k)
    (F:Nat→Value→Prop) (A0:World→Prop) (A1 A2 A3:Value→World→Prop) (hA:A0 w.drew)
    (hall:∀o,ops[n]? = some o→∀j,j<n→∃e ∈ o.after,e.on=j∧Region.binds .any e=true)
    (he2:∀o,ops[c2]? = some o→∃e ∈ o.after,e.on=c1∧Region.binds .any e=true)
    (he3:∀o,ops[c3]? = some o→∃e ∈ o.after,e.on=c2∧Region.binds .any e=true)
    (step:∀k o u W,k<n→k≠c1→k≠c2→k≠c3→ops[k]? = some o→(A0 W∨A1 (u (dst c1)) W∨A2 (u (dst c2)) W∨A3 (u (dst c3)) W)→(∀j,j<n→(∃e ∈ o.after,e.on=j∧Region.binds .any e=true)→F j (u (dst j)))→o.wp P (ovr D a0 u) W (fun a' W'=>∃v,a'=ovr D a0 (upd u (dst k) v)∧W'=W∧F k v) Q)
    (call1:∀o u W,ops[c1]? = some o→A0 W→(∀j,j<n→(∃e ∈ o.after,e.on=j∧Region.binds .any e=true)→F j (u (dst j)))→o.wp P (ovr D a0 u) W (fun a' W'=>∃v,a'=ovr D a0 (upd u (dst c1) v)∧A1 v W'∧F c1 v) Q)
    (call2:∀o u W,ops[c2]? = some o→A1 (u (dst c1)) W→(∀j,j<n→(∃e ∈ o.after,e.on=j∧Region.binds .any e=true)→F j (u (dst j)))→o.wp P (ovr D a0 u) W (fun a' W'=>∃v,a'=ovr D a0 (upd u (dst c2) v)∧A2 v W'∧F c2 v) Q)
    (call3:∀o u W,ops[c3]? = some o→A2 (u (dst c2)) W→(∀j,j<n→(∃e ∈ o.after,e.on=j∧Region.binds .any e=true)→F j (u (dst j)))→o.wp P (ovr D a0 u) W (fun a' W'=>∃v,a'=ovr D a0 (upd u (dst c3) v)∧A3 v W'∧F c3 v) Q)
    (last:∀o u W,ops[n]? = some o→A3 (u (dst c3)) W→(∀j,j<n→F j (u (dst j)))→o.wp P (ovr D a0 u) W (fun a' W'=>∃u',a'=ovr D a0 u'∧Q .normal (ovr D a0 u') W') Q) :
    (Code.region id ops true).wp P Q a0 w:=by
 refine gd hm D hg hacyc (fun l u W=>(l.getD n false=false∧(l.getD c1 false=false→l.getD c2 false=false)∧(l.getD c2 false=false→l.getD c3 false=false)∧(l.getD c1 false=false→A0 W)∧(l.getD c1 false=true→l.getD c2 false=false→A1 (u (dst c1)) W)∧(l.getD c2 false=true→l.getD c3 false=false→A2 (u (dst c2)) W)∧(l.getD c3 false=true→A3 (u (dst c3)) W)∧∀k,k<n→l.getD k false=true→F k (u (dst k)))∨((∀k,k<n+1→l.getD k false=true)∧Q .normal (ovr D a0 u) W)) (.inl ⟨?_,fun _ => ?_,fun _ => ?_,fun _=>hA,fun h => ?_,fun h => ?_,fun h => ?_,fun k hk h => ?_⟩) ?_ ?_
 ·simp[Array.getD,hn]
 ·simp[Array.getD,hn]
 ·simp[Array.getD,hn]
 ·simp[Array.getD,hn,show c1<n+1 by omega]at h
 ·simp[Array.getD,hn,show c2<n+1 by omega]at h
 ·simp[Array.getD,hn,show c3<n+1 by omega]at h
 ·simp[Array.getD,hn,show k<n+1 by omega]at h
 ·rintro l u W (⟨h1,_⟩|⟨_,h⟩) hA
  ·rw[hA n (by omega)]at h1;cases h1
  ·exact h
 ·rintro l u W k o (⟨h1,k12,k23,B0,B1,B2,B3,hF⟩|⟨hA,_⟩) hl hlk ho hd
  case inr=>
   have hk:k<n+1:=by rw[←hn];exact (Array.getElem?_eq_some_iff.1 ho).1
   rw[hA k hk]at hlk;cases hlk
  have hk:k<n+1:=by rw[←hn];exact (Array.getElem?_eq_some_iff.1 ho).1
  by_cases e:k=n
  ·subst e
   have hA:∀j,j<k→l.getD j false=true:=fun j hj=>by
    obtain⟨e,he,rfl,hb⟩:=hall o ho j hj;exact hd e he hb
   refine Oper.wp_mono ?_ (last o u W ho (B3 (hA c3 h3n)) (fun j hj=>hF j hj (hA j hj)));rintro a' W' ⟨u',rfl,h⟩;refine⟨u',rfl,.inr ⟨fun j hj => ?_,h⟩⟩
   by_cases e:j=k
   ·subst e;exact aN (by omega)
   ·rw[a8 l (Ne.symm e)];exact hA j (by omega)
  ·have hk':k<n:=by omega
   have hfd:∀j,j<n→(∃e ∈ o.after,e.on=j∧Region.binds .any e=true)→F j (u (dst j)):=fun j hj ⟨e,he,e1,hb⟩=>hF j hj (by rw[←e1];exact hd e he hb)
   have hput:∀ {v:Value},F k v→∀j,j<n→(l.set! k true).getD j false=true→F j ((upd u (dst k) v) (dst j)):=fun {v} hv=>iU (dst:=dst) (F:=fun k t _=>F k t) (w:=W) (w':=W) (hinj k hk') hF (fun j _ _ _ t z=>z) hv
   have dne:∀c,c<n→c≠k→∀v,(upd u (dst k) v) (dst c)=u (dst c):=fun c hc hck v=>yT (fun e=>hck (hinj k hk' c hc e))
   by_cases ec1:k=c1
   ·subst ec1;have l2:=k12 hlk;have l3:=k23 l2;refine Oper.wp_mono ?_ (call1 o u W ho (B0 hlk) hfd);rintro a' W' ⟨v,rfl,hb,hv⟩;refine⟨_,rfl,.inl ⟨?_,fun h => ?_,fun _ => ?_,fun h => ?_,fun _ _ => ?_,fun h => ?_,fun h => ?_,hput hv⟩⟩
    ·rw[a8 l e];exact h1
    ·rw[aN (by omega)]at h;cases h
    ·rw[a8 l h13];exact l3
    ·rw[aN (by omega)]at h;cases h
    ·rw[gZ];exact hb
    ·rw[a8 l h12,l2]at h;cases h
    ·rw[a8 l h13,l3]at h;cases h
   ·by_cases ec2:k=c2
    ·subst ec2
     have l1:l.getD c1 false=true:=by
      obtain⟨e,he,e1,hb⟩:=he2 o ho;rw[←e1];exact hd e he hb
     have l3:=k23 hlk;refine Oper.wp_mono ?_ (call2 o u W ho (B1 l1 hlk) hfd);rintro a' W' ⟨v,rfl,hb,hv⟩;refine⟨_,rfl,.inl ⟨?_,fun h => ?_,fun h => ?_,fun h => ?_,fun _ h => ?_,fun _ _ => ?_,fun h => ?_,hput hv⟩⟩
     ·rw[a8 l e];exact h1
     ·rw[a8 l ec1,l1]at h;cases h
     ·rw[aN (by omega)]at h;cases h
     ·rw[a8 l ec1,l1]at h;cases h
     ·rw[aN (by omega)]at h;cases h
     ·rw[gZ];exact hb
     ·rw[a8 l h23,l3]at h;cases h
    ·by_cases ec3:k=c3
     ·subst ec3
      have l2:l.getD c2 false=true:=by
       obtain⟨e,he,e1,hb⟩:=he3 o ho;rw[←e1];exact hd e he hb
      have l1:l.getD c1 false=true:=by
       cases hh:l.getD c1 false
       ·rw[k12 hh]at l2;cases l2
       ·rfl
      refine Oper.wp_mono ?_ (call3 o u W ho (B2 l2 hlk) hfd);rintro a' W' ⟨v,rfl,hb,hv⟩;refine⟨_,rfl,.inl ⟨?_,fun h => ?_,fun h => ?_,fun h => ?_,fun _ h => ?_,fun _ h => ?_,fun _ => ?_,hput hv⟩⟩
      ·rw[a8 l e];exact h1
      ·rw[a8 l ec1,l1]at h;cases h
      ·rw[a8 l ec2,l2]at h;cases h
      ·rw[a8 l ec1,l1]at h;cases h
      ·rw[a8 l ec2,l2]at h;cases h
      ·rw[aN (by omega)]at h;cases h
      ·rw[gZ];exact hb
     ·have hAB:A0 W∨A1 (u (dst c1)) W∨A2 (u (dst c2)) W∨A3 (u (dst c3)) W:=by
        cases hh:l.getD c1 false
        ·exact .inl (B0 hh)
        ·cases hh2:l.getD c2 false
         ·exact .inr (.inl (B1 hh hh2))
         ·cases hh3:l.getD c3 false
          ·exact .inr (.inr (.inl (B2 hh2 hh3)))
          ·exact .inr (.inr (.inr (B3 hh3)))
      refine Oper.wp_mono ?_ (step k o u W hk' ec1 ec2 ec3 ho hAB hfd);rintro a' W' ⟨v,rfl,rfl,hv⟩;refine⟨_,rfl,.inl ⟨?_,fun h => ?_,fun h => ?_,fun h=>B0 ?_,fun h h' => ?_,fun h h' => ?_,fun h => ?_,hput hv⟩⟩
      ·rw[a8 l e];exact h1
      ·rw[a8 l ec1]at h;rw[a8 l ec2];exact k12 h
      ·rw[a8 l ec2]at h;rw[a8 l ec3];exact k23 h
      ·rwa [a8 l ec1]at h
      ·rw[dne c1 h1n (Ne.symm ec1)];rw[a8 l ec1]at h;rw[a8 l ec2]at h';exact B1 h h'
      ·rw[dne c2 h2n (Ne.symm ec2)];rw[a8 l ec2]at h;rw[a8 l ec3]at h';exact B2 h h'
      ·rw[dne c3 h3n (Ne.symm ec3)];rw[a8 l ec3]at h;exact B3 h
theorem gE {P:Program} {o:Oper} {D:Nat→Bool} {a0:Act} {u:Nat→Value} {W W':World} {Q:Exit→Act→World→Prop} {A:Value→World→Prop} {F:Value→Prop} {dk:Nat} {v:Value} (hd:o.dst=some dk) (hD:D dk=true) (hrun:(execOp (ovr D a0 u).eval o).run P W = .ok (.value v) W') (hA:A v W') (hF:F v) :
    o.wp P (ovr D a0 u) W (fun a' W'=>∃v,a'=ovr D a0 (upd u dk v)∧A v W'∧F v) Q:=aA hrun ⟨v,aF hd hD u v,hA,hF⟩
theorem oD {P:Program} {o:Oper} {D:Nat→Bool} {a0:Act} {u:Nat→Value} {W:World} {Q:Exit→Act→World→Prop} {A:Value→World→Prop} {F:Value→Prop} {dk:Nat} {f:FuncId} {args:Array Value} (hd:o.dst=some dk) (hD:D dk=true) (hrun:(execOp (ovr D a0 u).eval o).run P W = .ok (.enter f args) W) (hc:Calls P f args W fun e w'=>∃v,e = .returned v∧A v w'∧F v) :
    o.wp P (ovr D a0 u) W (fun a' W'=>∃v,a'=ovr D a0 (upd u dk v)∧A v W'∧F v) Q:=iG hrun (hc.mono fun _ _ ⟨v,he,h1,h2⟩=>⟨v,he,v,aF hd hD u v,h1,h2⟩)
end Go.Proofs.YtocidankimefpaaGreatDoor.region
namespace Go.Proofs.YtocidankimefpaaGreatDoor.rows
open Go.RowKit
theorem tI {w:World} {a:Option Addr} {n cap:Nat} {es:List Int} (h:au w (.slice a n cap) es):es.length=n∧(a=none→n=0):=by
 obtain⟨a',cap',e,h1,_,h2,_⟩:=h;injection e with e1 e2 e3
 subst e1 e2 e3;exact⟨rfl,fun ha=>by have:=h2 ha;omega⟩
theorem Eu {w:World} {a:Option Addr} {n cap:Nat} {es:List Int} (h:au w (.slice a n cap) es):Src Tryz.prog 1 22 (.slice a n cap) n (cellsOf es) w:=by
 obtain⟨hl,hz⟩:=tI h;cases a with
 |none=>
  have hn:=hz rfl;have e:es=[]:=List.eq_nil_of_length_eq_zero (by omega);subst e hn;exact⟨.inl ⟨_,Tryz.underlying22⟩,fun w'=>by simp[Builtin.lenOf],by simp[Builtin.firstCells],by simp[Builtin.firstCells],by simp,fun u hu=>by simp at hu⟩
 |some ad=>
  have hc:(cellsOf es).length=n*1:=by simp[hl]
  exact⟨.inl ⟨_,Tryz.underlying22⟩,fun w'=>by simp[Builtin.lenOf],run_firstCells_some w 1 n ad n cap (cellsOf es) hc (cA h),run_firstCells_some w.drew 1 n ad n cap (cellsOf es) hc (cA (w:=w.drew) h),hc,ints_oneCell _ _⟩
theorem Cq {w:World} {g:Nat} {a:Option Addr} {n cap:Nat} {es:List Int} (h:au w (.slice a n cap) es) (hl:n≤1048576) (hg:w.heap[g]? = some (.cells #[] 2 (0,0))) (ty:TypeId) :
    ∃(q c:Nat) (w':World),(Builtin.append_ #[22,22] ty #[.slice (some ⟨g,0,none⟩) 0 0,.slice a n cap]).run Tryz.prog w = .ok (.slice (some ⟨q,0,none⟩) n c) w'∧(q=g∨w.heap.size≤q)∧(∀base,base≤q→w'.ownsRow base 2 1 (.slice (some ⟨q,0,none⟩) n c) n (cellsOf es))∧Below w.heap.size w w':=by
 obtain⟨i0,hi,hz0,hz1,hz2⟩:=info_parts info;have S:=Eu h;obtain⟨hlen,_⟩:=tI h
 have ho:∀ {w':World} {q c base:Nat} (cur:Array Value),base≤q→w'.heap[q]? = some (.cells cur 2 (0,0))→n≤c→c≤maxLen→cur.size=c*1→cur.toList.take (n*1)=cellsOf es→w'.ownsRow base 2 1 (.slice (some ⟨q,0,none⟩) n c) n (cellsOf es):=by
  intro w' q c base cur h1 h2 h3 h4 h5 h6;exact⟨by simp[hlen],.inr ⟨q,c,cur,rfl,h1,h2,h3,h4,h5,h6⟩⟩
 rcases Nat.eq_zero_or_pos n with h0|hp
 ·subst h0;have e:es=[]:=List.eq_nil_of_length_eq_zero hlen;subst e;have hr:=run_append_nothing w 22 22 ty 2 i0 Tryz.underlying22 hi (some ⟨g,0,none⟩) 0 0 (Nat.le_refl _) (.slice a 0 cap) (by rw[hz1];exact S);exact⟨g,0,w,hr,.inl rfl,fun base hb=>ho #[] hb hg (Nat.le_refl _) (by decide) rfl rfl,Below.refl _ _⟩
 ·have hold:(Builtin.firstCells i0.size 0 (.slice (some ⟨g,0,none⟩) 0 0)).run Tryz.prog w.drew = .ok ([]:List Value).toArray w.drew:=run_firstCells_some w.drew i0.size 0 ⟨g,0,none⟩ 0 0 [] (by simp) (fun j v hj=>by simp at hj);have hr:=run_append_grow_src w 22 22 ty 2 i0 (.int .i64 0) Tryz.underlying22 hi hz0 (some ⟨g,0,none⟩) 0 0 [] hold (.slice a n cap) n (cellsOf es) (by rw[hz1];exact S) (by omega) (by omega) (by rw[hz2];exact growslice_fits (by omega) (by omega));have hge:=grownCap_ge w (0+n) 0 2;have hcm:grownCap w (0+n) 0 2≤maxLen:=grownCap_le_maxLen w (0+n) 0 2 (by unfold maxLen;omega);rw[Nat.zero_add]at hr hge hcm;refine⟨w.heap.size,_,_,hr,.inr (Nat.le_refl _),fun base hb=>ho _ hb (heap_alloc_new w.drew _) hge hcm ?_ ?_,⟨rfl,rfl,rfl,by simp,fun j hj=>Below.heap_alloc w.drew _ j hj⟩⟩
  ·simp[Builtin.zeroCells,Value.cells,hlen];omega
  ·simp only[List.nil_append,Array.toList_append];exact List.take_left' (by simp[hlen])
end Go.Proofs.YtocidankimefpaaGreatDoor.rows
namespace Go.Proofs.YtocidankimefpaaGreatDoor.region
open Go
theorem qB {P:Program} {id:Nat} {ops:Array Oper} {Q:Exit→Act→World→Prop} {a0:Act} {w:World} (hm:P.follows .mixedOrders=true) (D:Nat→Bool)
    (hg:∀o ∈ ops,o.guard=none) (hacyc:∀(k:Nat) (o:Oper),ops[k]? = some o→∀e ∈ o.after,Region.binds .any e=true→e.on<k)
    (I:Array Bool→(Nat→Value)→World→Prop)
    (start:I (Array.replicate ops.size false) (fun s=>a0.tmps.getD s undef) w.drew)
    (fin:∀l u w,I l u w→(∀k,k<ops.size→l.getD k false=true)→Q .normal (ovr D a0 u) w)
    (stp:∀l u w k o,I l u w→(∀j o',ops[j]? = some o'→l.getD j false=true→∀e ∈ o'.after,Region.binds .any e=true→l.getD e.on false=true)→l.size=ops.size→l.getD k false=false→ops[k]? = some o→(∀e ∈ o.after,Region.binds .any e=true→l.getD e.on false=true) →
     o.wp P (ovr D a0 u) w (fun a' w'=>∃u',a'=ovr D a0 u'∧I (l.setIfInBounds k true) u' w') Q):(Code.region id ops true).wp P Q a0 w:=by
 refine gd hm D hg hacyc (fun l u W=>I l u W∧∀j o',ops[j]? = some o'→l.getD j false=true→∀e ∈ o'.after,Region.binds .any e=true→l.getD e.on false=true) ⟨start,fun j o' ho' h => ?_⟩ (fun l u w h=>fin l u w h.1) ?_
 ·have hj:j<ops.size:=(Array.getElem?_eq_some_iff.1 ho').1;simp[Array.getD,hj]at h
 ·rintro l u W k o ⟨h,hC⟩ hl hlk ho hd;have hk:k<ops.size:=(Array.getElem?_eq_some_iff.1 ho).1;refine Oper.wp_mono ?_ (stp l u W k o h hC hl hlk ho hd);rintro a' W' ⟨u',e,h'⟩;refine⟨u',e,h',fun j o' ho' hlj e' he' hb' => ?_⟩
  by_cases e2:k=e'.on
  ·rw[←e2];exact aN (by omega)
  ·rw[a8 l e2];by_cases e3:k=j
   ·subst e3;rw[ho]at ho';injection ho' with ho'
    subst ho';exact hd e' he' hb'
   ·rw[a8 l e3]at hlj;exact hC j o' ho' hlj e' he' hb'
theorem tJ {P:Program} {id:Nat} {ops:Array Oper} {Q:Exit→Act→World→Prop} {a0:Act} {w:World} (hm:P.follows .mixedOrders=true) (D:Nat→Bool)
    (hg:∀o ∈ ops,o.guard=none) (hacyc:∀(k:Nat) (o:Oper),ops[k]? = some o→∀e ∈ o.after,Region.binds .any e=true→e.on<k) (n c1 c2:Nat) (hn:ops.size=n+1) (h1n:c1<n) (h2n:c2<n) (h12:c1≠c2) (dst:Nat→Nat) (hinj:∀k,k<n→∀j,j<n→dst j=dst k→j=k)
    (F:Nat→Value→Prop) (A0:World→Prop) (A1 A2:Value→World→Prop) (hA:A0 w.drew)
    (hall:∀l:Nat→Bool,(∀k o,ops[k]? = some o→(k<n→l k=true)→∀e ∈ o.after,Region.binds .any e=true→l e.on=true)→∀j,j<n→l j=true)
    (he2:∀o,ops[c2]? = some o→∃e ∈ o.after,e.on=c1∧Region.binds .any e=true)
    (step:∀k o u W,k<n→k≠c1→k≠c2→ops[k]? = some o→(A0 W∨A1 (u (dst c1)) W∨A2 (u (dst c2)) W)→(∀j,j<n→(∃e ∈ o.after,e.on=j∧Region.binds .any e=true)→F j (u (dst j)))→o.wp P (ovr D a0 u) W (fun a' W'=>∃v,a'=ovr D a0 (upd u (dst k) v)∧W'=W∧F k v) Q)
    (call1:∀o u W,ops[c1]? = some o→A0 W→(∀j,j<n→(∃e ∈ o.after,e.on=j∧Region.binds .any e=true)→F j (u (dst j)))→o.wp P (ovr D a0 u) W (fun a' W'=>∃v,a'=ovr D a0 (upd u (dst c1) v)∧A1 v W'∧F c1 v) Q)
    (call2:∀o u W,ops[c2]? = some o→A1 (u (dst c1)) W→(∀j,j<n→(∃e ∈ o.after,e.on=j∧Region.binds .any e=true)→F j (u (dst j)))→o.wp P (ovr D a0 u) W (fun a' W'=>∃v,a'=ovr D a0 (upd u (dst c2) v)∧A2 v W'∧F c2 v) Q)
    (last:∀o u W,ops[n]? = some o→A2 (u (dst c2)) W→(∀j,j<n→F j (u (dst j)))→o.wp P (ovr D a0 u) W (fun a' W'=>∃u',a'=ovr D a0 u'∧Q .normal (ovr D a0 u') W') Q) :
    (Code.region id ops true).wp P Q a0 w:=by
 refine qB hm D hg hacyc (fun l u W=>(l.getD n false=false∧(l.getD c1 false=false→l.getD c2 false=false)∧(l.getD c1 false=false→A0 W)∧(l.getD c1 false=true→l.getD c2 false=false→A1 (u (dst c1)) W)∧(l.getD c2 false=true→A2 (u (dst c2)) W)∧∀k,k<n→l.getD k false=true→F k (u (dst k)))∨((∀k,k<n+1→l.getD k false=true)∧Q .normal (ovr D a0 u) W)) (.inl ⟨?_,fun _ => ?_,fun _=>hA,fun h => ?_,fun h => ?_,fun k hk h => ?_⟩) ?_ ?_
 ·simp[Array.getD,hn]
 ·simp[Array.getD,hn]
 ·simp[Array.getD,hn,show c1<n+1 by omega]at h
 ·simp[Array.getD,hn,show c2<n+1 by omega]at h
 ·simp[Array.getD,hn,show k<n+1 by omega]at h
 ·rintro l u W (⟨h1,_⟩|⟨_,h⟩) hA
  ·rw[hA n (by omega)]at h1;cases h1
  ·exact h
 ·rintro l u W k o (⟨h1,k12,B0,B1,B2,hF⟩|⟨hA,_⟩) hC hl hlk ho hd
  case inr=>
   have hk:k<n+1:=by rw[←hn];exact (Array.getElem?_eq_some_iff.1 ho).1
   rw[hA k hk]at hlk;cases hlk
  have hk:k<n+1:=by rw[←hn];exact (Array.getElem?_eq_some_iff.1 ho).1
  by_cases e:k=n
  ·subst e
   have hA:∀j,j<k→l.getD j false=true:=hall (fun j=>l.getD j false) (fun j o' ho' hj e he hb=>by
    have hj1:j<k+1:=by rw[←hn];exact (Array.getElem?_eq_some_iff.1 ho').1
    by_cases e2:j=k
    ·subst e2;rw[ho]at ho';injection ho' with ho'
     subst ho';exact hd e he hb
    ·exact hC j o' ho' (hj (by omega)) e he hb)
   refine Oper.wp_mono ?_ (last o u W ho (B2 (hA c2 h2n)) (fun j hj=>hF j hj (hA j hj)));rintro a' W' ⟨u',rfl,h⟩;refine⟨u',rfl,.inr ⟨fun j hj => ?_,h⟩⟩
   by_cases e:j=k
   ·subst e;exact aN (by omega)
   ·rw[a8 l (Ne.symm e)];exact hA j (by omega)
  ·have hk':k<n:=by omega
   have hfd:∀j,j<n→(∃e ∈ o.after,e.on=j∧Region.binds .any e=true)→F j (u (dst j)):=fun j hj ⟨e,he,e1,hb⟩=>hF j hj (by rw[←e1];exact hd e he hb)
   have hput:∀ {v:Value},F k v→∀j,j<n→(l.set! k true).getD j false=true→F j ((upd u (dst k) v) (dst j)):=fun {v} hv=>iU (dst:=dst) (F:=fun k t _=>F k t) (w:=W) (w':=W) (hinj k hk') hF (fun j _ _ _ t z=>z) hv
   have dne:∀c,c<n→c≠k→∀v,(upd u (dst k) v) (dst c)=u (dst c):=fun c hc hck v=>yT (fun e=>hck (hinj k hk' c hc e))
   by_cases ec1:k=c1
   ·subst ec1;have l2:=k12 hlk;refine Oper.wp_mono ?_ (call1 o u W ho (B0 hlk) hfd);rintro a' W' ⟨v,rfl,hb,hv⟩;refine⟨_,rfl,.inl ⟨?_,fun h => ?_,fun h => ?_,fun _ _ => ?_,fun h => ?_,hput hv⟩⟩
    ·rw[a8 l e];exact h1
    ·rw[aN (by omega)]at h;cases h
    ·rw[aN (by omega)]at h;cases h
    ·rw[gZ];exact hb
    ·rw[a8 l h12,l2]at h;cases h
   ·skip
    by_cases ec2:k=c2
    ·subst ec2
     have l1:l.getD c1 false=true:=by
      obtain⟨e,he,e1,hb⟩:=he2 o ho;rw[←e1];exact hd e he hb
     refine Oper.wp_mono ?_ (call2 o u W ho (B1 l1 hlk) hfd);rintro a' W' ⟨v,rfl,hb,hv⟩;refine⟨_,rfl,.inl ⟨?_,fun h => ?_,fun h => ?_,fun _ h => ?_,fun _ => ?_,hput hv⟩⟩
     ·rw[a8 l e];exact h1
     ·rw[a8 l (Ne.symm h12),l1]at h;cases h
     ·rw[a8 l (Ne.symm h12),l1]at h;cases h
     ·rw[aN (by omega)]at h;cases h
     ·rw[gZ];exact hb
    ·skip
     have hAB:A0 W∨A1 (u (dst c1)) W∨A2 (u (dst c2)) W:=by
      cases hh1:l.getD c1 false
      ·exact .inl (B0 hh1)
      ·skip
       cases hh2:l.getD c2 false
       ·exact .inr (.inl (B1 hh1 hh2))
       ·exact .inr (.inr (B2 hh2))
     refine Oper.wp_mono ?_ (step k o u W hk' ec1 ec2 ho hAB hfd);rintro a' W' ⟨v,rfl,rfl,hv⟩;refine⟨_,rfl,.inl ⟨?_,fun h => ?_,fun h=>B0 ?_,fun h h' => ?_,fun h => ?_,hput hv⟩⟩
     ·rw[a8 l e];exact h1
     ·rw[a8 l ec1]at h;rw[a8 l ec2];exact k12 h
     ·rwa [a8 l ec1]at h
     ·rw[dne c1 h1n (Ne.symm ec1)];rw[a8 l ec1]at h;rw[a8 l ec2]at h';exact B1 h h'
     ·rw[dne c2 h2n (Ne.symm ec2)];rw[a8 l ec2]at h;exact B2 h
end Go.Proofs.YtocidankimefpaaGreatDoor.region
namespace Go.Proofs.YtocidankimefpaaGreatDoor.region
open Go Go.RowKit
theorem tK {P:Program} {id:Nat} {ops:Array Oper} {Q:Exit→Act→World→Prop} {a0:Act} {w:World} (hm:P.follows .mixedOrders=true) (D:Nat→Bool) (R:World→World→Prop) (Rtr:∀a b c,R a b→R b c→R a c) (Rdr:R w w.drew)
    (hg:∀o ∈ ops,o.guard=none) (hacyc:∀(k:Nat) (o:Oper),ops[k]? = some o→∀e ∈ o.after,e.on<k) (n:Nat) (hn:ops.size=n+1) (dst:Nat→Nat) (hinj:∀k,k<n→∀j,j<n→dst j=dst k→j=k)
    (F:Nat→Value→World→Prop) (hst:∀k t W W',R W W'→F k t W→F k t W')
    (hall:∀o,ops[n]? = some o→∀j,j<n→∃e ∈ o.after,e.on=j∧Region.binds .any e=true)
    (step:∀k o u W,k<n→ops[k]? = some o→R w W→(∀j,j<n→(∃e ∈ o.after,e.on=j∧Region.binds .any e=true)→F j (u (dst j)) W)→o.wp P (ovr D a0 u) W (fun a' W'=>∃v,a'=ovr D a0 (upd u (dst k) v)∧R W W'∧F k v W') Q)
    (last:∀o u W,ops[n]? = some o→R w W→(∀j,j<n→F j (u (dst j)) W)→o.wp P (ovr D a0 u) W (fun a' W'=>∃u',a'=ovr D a0 u'∧Q .normal (ovr D a0 u') W') Q) :
    (Code.region id ops true).wp P Q a0 w:=by
 refine gY hm D hg hacyc (fun l u W=>(l.getD n false=false∧R w W∧∀k,k<n→l.getD k false=true→F k (u (dst k)) W)∨((∀k,k<n+1→l.getD k false=true)∧Q .normal (ovr D a0 u) W)) (.inl ⟨?_,Rdr,fun k hk h => ?_⟩) ?_ ?_
 ·simp[Array.getD,hn]
 ·simp[Array.getD,hn,show k<n+1 by omega]at h
 ·rintro l u W (⟨h1,_⟩|⟨_,h⟩) hA
  ·rw[hA n (by omega)]at h1;cases h1
  ·exact h
 ·rintro l u W k o (⟨h1,hB,hF⟩|⟨hA,_⟩) hl hlk ho hd
  case inr=>
   have hk:k<n+1:=by rw[←hn];exact (Array.getElem?_eq_some_iff.1 ho).1
   rw[hA k hk]at hlk;cases hlk
  have hk:k<n+1:=by rw[←hn];exact (Array.getElem?_eq_some_iff.1 ho).1
  by_cases e:k=n
  ·subst e
   have hA:∀j,j<k→l.getD j false=true:=fun j hj=>by
    obtain⟨e,he,rfl,hb⟩:=hall o ho j hj;exact hd e he hb
   refine Oper.wp_mono ?_ (last o u W ho hB (fun j hj=>hF j hj (hA j hj)));rintro a' W' ⟨u',rfl,h⟩;refine⟨u',rfl,.inr ⟨fun j hj => ?_,h⟩⟩
   by_cases e:j=k
   ·subst e;exact aN (by omega)
   ·rw[a8 l (Ne.symm e)];exact hA j (by omega)
  ·have hk':k<n:=by omega
   refine Oper.wp_mono ?_ (step k o u W hk' ho hB (fun j hj ⟨e,he,e1,hb⟩=>hF j hj (by rw[←e1];exact hd e he hb)));rintro a' W' ⟨v,rfl,hb,hv⟩;refine⟨_,rfl,.inl ⟨?_,Rtr _ _ _ hB hb,?_⟩⟩
   ·rw[a8 l e];exact h1
   ·exact iU (dst:=dst) (hinj k hk') hF (fun j _ _ _ t=>hst j t W W' hb) hv
end Go.Proofs.YtocidankimefpaaGreatDoor.region
