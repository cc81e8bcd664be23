/-
  Plain facts on the low two bits of a 64-bit number: a mask by 3 is the rest by 4; 4n with bit 1 laid in is 4n + 1; with 0 laid in, itself. Lists of 64-bit numbers in memory: what may be read of one (IntsAt); a row of the call's own (Own). Chapter 3 as the specification has it: is it a row? Chapter 3
-/
import Derived.Laws.BitsLemmas
import Derived.Laws.BitsAllLaws
import Derived.Test.YtemlagfaaibenaaGreatRows
import Derived.WalkKit
import Derived.WalkSpells
import Derived.WalkLawsBesides
import Derived.OpenShut
import Derived.Below
import Derived.LoopTactic
import Derived.LoopN
import Derived.Deep.QuietTactic
import Derived.BigQuiet
import Derived.Laws.AppendOwnNone
import Derived.Test.YtemlagfaaibenaaGreatProg
import Derived.Orders
import Derived.Deep.Quiet
import Derived.Tactics
import Derived.Laws.CopyOwn
import Derived.Deep.RegionLaw
namespace Go.Proofs.YtemlagfaaibenaaGreat
theorem and3 (n:Int):bits .and .i64 n 3=n % 4:=by
 have h3:(BitVec.ofInt 64 3).toNat=2 ^ 2-1:=by decide
 have key:(BitVec.ofInt 64 n &&& BitVec.ofInt 64 3).toNat=(n % ((2 ^ 64:Nat):Int)).toNat % 2 ^ 2:=by
  rw[BitVec.toNat_and,BitVec.toNat_ofInt,h3,Nat.and_two_pow_sub_one_eq_mod]
 show IntKind.i64.wrap ((BitVec.ofInt 64 n &&& BitVec.ofInt 64 3).toNat:Nat)=n % 4
 rw[key,IntKind.wrap_i64]
 omega
theorem or0 (x:Int) (h0 : -1000000≤x) (h1:x≤1000000):bits .or .i64 x 0=x:=by
 have h3:(BitVec.ofInt 64 0).toNat=0:=by decide
 have key:(BitVec.ofInt 64 x ||| BitVec.ofInt 64 0).toNat=(x % ((2 ^ 64:Nat):Int)).toNat:=by
  rw[BitVec.toNat_or,BitVec.toNat_ofInt,h3,Nat.or_zero]
 show IntKind.i64.wrap ((BitVec.ofInt 64 x ||| BitVec.ofInt 64 0).toNat:Nat)=x
 rw[key,IntKind.wrap_i64]
 omega
theorem tdiv4 (n:Int) (h:n % 4=1):(n-1).tdiv 4=n / 4:=by
 rw[Int.tdiv_eq_ediv_of_dvd (by omega)]
 omega
end Go.Proofs.YtemlagfaaibenaaGreat
namespace Go.Proofs.YtemlagfaaibenaaGreat.rows
open Go.RowKit
def I64 (i:Int):Prop:= -9223372036854775808≤i∧i≤9223372036854775807
theorem i64_of_wf {i:Int} (h:(Lit.int .i64 i).wf=true):I64 i:=by
 simpa [I64,Lit.wf,IntKind.min,IntKind.max,IntKind.signed,IntKind.bits] using h
abbrev cellsOf (xs:List Int):List Value:=xs.map (Value.int .i64)
def IntsAt (w:World) (v:Value) (xs:List Int):Prop:=
 ∃a cap,v = .slice a xs.length cap∧xs.length≤cap∧cap≤maxLen∧(a=none→cap=0) ∧
  (0<xs.length→∃b off,a=some ⟨b,off,none⟩∧b<w.heap.size∧∀i,i<xs.length→w.cell? ⟨b,off+i,none⟩=some (.int .i64 (xs.getD i 0)))
theorem intsAt_below {w w':World} {v:Value} {xs:List Int} (h:IntsAt w v xs) (hb:Below w.heap.size w w'):IntsAt w' v xs:=by
 obtain⟨a,cap,rfl,h1,h2,h4,h3⟩:=h
 refine⟨a,cap,rfl,h1,h2,h4,fun hp => ?_⟩
 obtain⟨b,off,rfl,hlt,hc⟩:=h3 hp
 exact⟨b,off,rfl,Nat.lt_of_lt_of_le hlt hb.size,fun i hi=>(hb.cell (p:=⟨b,off+i,none⟩) hlt).trans (hc i hi)⟩
def Own (w:World) (base:Nat) (v:Value) (xs:List Int):Prop:=w.ownsRow base 2 1 v xs.length (cellsOf xs)
theorem own_ints {w:World} {base:Nat} {v:Value} {xs:List Int} (h:Own w base v xs):IntsAt w v xs:=by
 have h':=h
 obtain⟨_,⟨rfl,hn⟩|⟨g,cap,cur,rfl,hg,hh,hle,hm,hs,ht⟩⟩:=h
 ·have:xs=[]:=by simpa using hn
  subst this
  exact⟨none,0,rfl,by simp,by decide,fun _=>rfl,fun hp=>absurd hp (by simp)⟩
 ·refine⟨_,cap,rfl,hle,hm,fun h=>(by cases h),fun hp=>⟨g,0,rfl,lt_of_block hh,fun i hi => ?_⟩⟩
  have:=World.ownsRow.cellAt h' i (by omega)
  rw[Nat.zero_add,this]
  simp[List.getD_eq_getElem?_getD,List.getElem?_eq_getElem hi]
theorem own_base {w:World} {base base':Nat} {v:Value} {xs:List Int} (h:Own w base v xs) (hb:base'≤base):Own w base' v xs:=by
 obtain⟨h0,⟨h1,h2⟩|⟨g,cap,cur,h1,hg,hh,hle,hm,hs,ht⟩⟩:=h
 ·exact⟨h0,.inl ⟨h1,h2⟩⟩
 ·exact⟨h0,.inr ⟨g,cap,cur,h1,Nat.le_trans hb hg,hh,hle,hm,hs,ht⟩⟩
theorem own_below {w w':World} {base:Nat} {v:Value} {xs:List Int} (h:Own w base v xs) (hb:Below w.heap.size w w'):Own w' base v xs:=by
 obtain⟨h0,⟨h1,h2⟩|⟨g,cap,cur,h1,hg,hh,hle,hm,hs,ht⟩⟩:=h
 ·exact⟨h0,.inl ⟨h1,h2⟩⟩
 ·exact⟨h0,.inr ⟨g,cap,cur,h1,hg,(hb.block g (lt_of_block hh)).trans hh,hle,hm,hs,ht⟩⟩
def Full (w:World) (b:Nat) (xs:List Int):Prop:=w.heap[b]? = some (.cells (cellsOf xs).toArray 2 (0,0))
theorem full_own {w:World} {b base:Nat} {xs:List Int} (h:Full w b xs) (hb:base≤b) (hm:xs.length≤maxLen):Own w base (.slice (some ⟨b,0,none⟩) xs.length xs.length) xs:=
 ⟨by simp,.inr ⟨b,xs.length,_,rfl,hb,h,Nat.le_refl _,hm,by simp,List.take_of_length_le (by simp)⟩⟩
theorem own_full {w:World} {base g n:Nat} {cs:List Value} {xs:List Int} (h:w.ownsRow base 2 1 (.slice (some ⟨g,0,none⟩) n n) n cs) (hcs:cs=cellsOf xs):Full w g xs:=by
 subst hcs
 obtain⟨_,⟨h1,_⟩|⟨g',cap,cur,h1,hg,hh,hle,hm,hs,ht⟩⟩:=h
 ·cases h1
 ·injection h1 with e1 e2 e3
  injection e1 with e1
  injection e1 with e1
  subst e1 e3
  unfold Full
  rw[hh]
  rw[List.take_of_length_le (by simpa using Nat.le_of_eq hs)]at ht
  rw[←ht]
theorem full_cell {w:World} {b:Nat} {xs:List Int} (h:Full w b xs) {i:Nat} (hi:i<xs.length):w.cell? ⟨b,i,none⟩=some (.int .i64 (xs.getD i 0)):=by
 unfold Full at h
 simp[World.cell?, h,List.getD_eq_getElem?_getD,List.getElem?_eq_getElem hi]
theorem full_frozen {w:World} {b:Nat} {xs:List Int} (h:Full w b xs) (i:Nat):w.frozen? ⟨b,i,none⟩=false:=by
 unfold Full at h
 simp[World.frozen?, h]
theorem block_setCell {w:World} {b:Nat} {c:Array Value} {t:TypeId} (h:w.heap[b]? = some (.cells c t (0,0))) (k:Nat) (u:Value) :
    (w.setCell ⟨b,k,none⟩ u).heap[b]? = some (.cells (c.setIfInBounds k u) t (0,0)):=by
 have hlt:=lt_of_block h
 have h':w.heap[b] = .cells c t (0,0):=by simpa [Array.getElem?_eq_getElem hlt] using h
 show (w.heap.modify b _)[b]? = _
 rw[Array.getElem?_eq_getElem (by simpa using hlt),Array.getElem_modify_self,h']
 rfl
theorem full_set {w:World} {b:Nat} {xs:List Int} (h:Full w b xs) (i:Nat) (x:Int):Full (w.setCell ⟨b,i,none⟩ (.int .i64 x)) b (xs.set i x):=by
 unfold Full
 rw[block_setCell h i]
 simp[cellsOf,List.map_set]
theorem info:(Tryz.prog.info? 2).map (fun i=>(i.zero,i.size,i.bytes))=some (some (.int .i64 0),1,8):=by kernel_rfl
theorem take_succ_eq {xs ys:List Int} {k:Nat} (h:xs.take k=ys.take k) (hx:k<xs.length) (hy:k<ys.length) (e:xs.getD k 0=ys.getD k 0):xs.take (k+1)=ys.take (k+1):=by
 rw[List.take_succ_eq_append_getElem hx,List.take_succ_eq_append_getElem hy,h]
 simp[List.getD_eq_getElem?_getD,List.getElem?_eq_getElem hx,List.getElem?_eq_getElem hy]at e
 rw[e]
theorem ints_news {w:World} {ad:Addr} {n cap:Nat} {xs:List Int} (h:IntsAt w (.slice (some ad) n cap) xs):∀j u,(cellsOf xs)[j]? = some u→w.cell? (ad.add j)=some u:=by
 obtain⟨a,cap',e,h1,h2,h4,h3⟩:=h
 intro j u hj
 have hlt:j<xs.length:=by
  have:=List.getElem?_eq_some_iff.1 hj
  simpa using this.1
 obtain⟨b,off,rfl,_,hc⟩:=h3 (by omega)
 injection e with e1 e2 e3
 injection e1 with e1
 subst e1
 have:=hc j hlt
 simp[List.getD_eq_getElem?_getD,List.getElem?_eq_getElem hlt]at this
 simp[cellsOf,List.getElem?_eq_getElem hlt]at hj
 rw[←hj]
 by_cases h0:j=0
 ·subst h0;simpa [Addr.add] using this
 ·simpa [Addr.add,h0] using this
def rowOk (xs:List Int):Bool:=decide (xs.length≤1000)
theorem rowOk_true {xs:List Int} (h:rowOk xs=true):xs.length≤1000:=by simpa [rowOk] using h
def atOk (xs:List Int) (i:Int):Bool:=decide (0≤i∧i<xs.length)
theorem atOk_true {xs:List Int} {i:Int} (h:atOk xs i=true):0≤i∧i<xs.length:=by simpa [atOk] using h
def okAt (xs:List Int) (i:Int):Bool:=rowOk xs&&atOk xs i
def readAt (xs:List Int) (i:Int):Int:=if okAt xs i=true then xs.getD i.toNat 0 else 0
theorem copied_own {w w1:World} {v':Value} {xs:List Int} (hown:w1.ownsRow w.heap.size 2 1 v' (0+xs.length) ([]++cellsOf xs)) (hgrow:(w.alloc (.cells #[] 2)).grownBy w1 (some w.heap.size))
    (hnn:v' = .slice none 0 0↔Value.slice (some ⟨w.heap.size,0,none⟩) 0 0 = .slice none 0 0∧xs.length=0) :
    ∃g cap,v' = .slice (some ⟨g,0,none⟩) xs.length cap∧w.heap.size≤g∧w1.ownsRow w.heap.size 2 1 (.slice (some ⟨g,0,none⟩) xs.length cap) xs.length (cellsOf xs)∧Below w.heap.size w w1:=by
 rw[Nat.zero_add,List.nil_append]at hown
 have h':=hown
 obtain⟨_,⟨rfl,_⟩|⟨g,cap,cur,rfl,hg,_⟩⟩:=hown
 ·exact absurd (hnn.1 rfl).1 (by simp)
 ·exact⟨g,cap,rfl,hg,h',((Below.refl _ _).alloc (Nat.le_refl _) _).grown hgrow (by simp) (fun k e=>by cases e;exact Nat.le_refl _)⟩
theorem own_row {w:World} {base n:Nat} {v:Value} {xs:List Int} (h:w.ownsRow base 2 1 v n (cellsOf xs)) (hn:xs.length=n):Own w base v xs:=by
 subst hn;exact h
theorem wpList_copied {w:World} {ops:Array Oper} {rest:List Oper} {o:Oper} {act:Act} {Q:Exit→Act→World→Prop} {a:Option Addr} {cap:Nat} {xs:List Int}
    (h:IntsAt w (.slice a xs.length cap) xs) (hl:xs.length≤1048576) (hgd:o.guard=none) (s x:Operand) (ho:o.op = .call { callee:=.builtin .append,args:=#[s,x],argTypes:=#[22,22] })
    (hs:act.eval s = .slice (some ⟨w.heap.size,0,none⟩) 0 0) (hx:act.eval x = .slice a xs.length cap)
    (hK:∀g cap' w1,w.heap.size≤g→w1.ownsRow w.heap.size 2 1 (.slice (some ⟨g,0,none⟩) xs.length cap') xs.length (cellsOf xs)→Below w.heap.size w w1→wpList Tryz.prog ops Q rest (act.put o.dst (.slice (some ⟨g,0,none⟩) xs.length cap')) w1) :
    wpList Tryz.prog ops Q (o :: rest) act (w.alloc (.cells #[] 2)):=by
 obtain⟨i0,hi,hz0,hz1,hz2⟩:=info_parts info
 have OWN:(w.alloc (.cells #[] 2)).ownsRow w.heap.size 2 1 (.slice (some ⟨w.heap.size,0,none⟩) 0 0) 0 []:=⟨rfl,.inr ⟨w.heap.size,0,#[],rfl,Nat.le_refl _,heap_alloc_new w _,Nat.le_refl _,by decide,rfl,rfl⟩⟩
 have h':=h
 obtain⟨a',cap',e,hlc,hcm,hnil,_⟩:=h
 injection e with e1 e2 e3
 subst e1 e3
 cases a with
 |none=>
  have hcap:=hnil rfl
  have e:xs=[]:=List.eq_nil_of_length_eq_zero (by omega)
  subst e hcap
  refine wpList_append_own_none hgd s x 22 ho _ 2 i0 1 Tryz.underlying22 hi _ 0 [] hs OWN hx ?_
  exact hK _ _ _ (Nat.le_refl _) OWN ((Below.refl _ _).alloc (Nat.le_refl _) _)
 |some ad=>
  refine wpList_append_own _ hgd s x 22 ho _ 2 i0 (.int .i64 0) 1 8 Tryz.underlying22 hi hz0 hz1 hz2 rfl (by decide) _ 0 [] hs OWN ad xs.length cap (cellsOf xs) hx (by simp) (ints_news (intsAt_below h' ((Below.refl _ _).alloc (Nat.le_refl _) _))) (ints_oneCell _ _) (by unfold maxLen;omega) (by omega) (by simp) ?_
  intro v' w1 hown hgrow hnn
  obtain⟨g,cap',rfl,hg,hO,hB⟩:=copied_own hown hgrow hnn
  exact hK g cap' w1 hg hO hB
def fill (xs:List Int) (f k:Nat) (x:Int):List Int:=xs.take f++List.replicate k x++xs.drop (f+k)
theorem fill_zero (xs:List Int) (f:Nat) (x:Int):fill xs f 0 x=xs:=by simp[fill]
theorem fill_length {xs:List Int} {f k:Nat} {x:Int} (h:f+k≤xs.length):(fill xs f k x).length=xs.length:=by simp[fill];omega
theorem fill_set {xs:List Int} {f k:Nat} {x:Int} (h:f+k<xs.length):(fill xs f k x).set (f+k) x=fill xs f (k+1) x:=by
 apply List.ext_getElem?
 intro i
 simp only[fill,List.getElem?_set,List.getElem?_append,List.length_take,List.getElem?_take,List.getElem?_replicate,List.length_append,List.length_replicate,List.getElem?_drop,List.length_drop]
 grind
theorem set_take {xs:List Int} {k:Nat} (h:k<xs.length):(xs.take k++List.replicate (xs.length-k) 0).set k (xs.getD k 0)=xs.take (k+1)++List.replicate (xs.length-(k+1)) 0:=by
 apply List.ext_getElem?
 intro i
 simp only[List.getElem?_set,List.getElem?_append,List.length_take,List.getElem?_take,List.getElem?_replicate,List.length_append,List.length_replicate]
 rcases Nat.lt_trichotomy i k with hi|hi|hi
 ·grind
 ·grind
 ·grind
set_option maxHeartbeats 1000000 in
theorem toInt64S_any {w:World} {v:Value} {xs:List Int} (h:IntsAt w v xs) (hl:xs.length≤1048576) :
    Calls Tryz.prog 22 #[v] w fun e w'=>e = .returned (.slice (some ⟨w.heap.size,0,none⟩) xs.length xs.length)∧Full w' w.heap.size xs∧Below w.heap.size w w':=by
 obtain⟨a,cap,rfl,hlc,hcm,_,hc⟩:=h
 obtain⟨i0,hi,hz0,hz1,hz2⟩:=info_parts info
 have HC:Hid (0<xs.length→∃b off,a=some ⟨b,off,none⟩∧b<w.heap.size∧∀i,i<xs.length→w.cell? ⟨b,off+i,none⟩=some (.int .i64 (xs.getD i 0))):=hc
 clear hc
 go_enter Tryz.func22,Tryz.ntmps22
 go_wp2_with (at_make;refine wpList_make_full _ rfl _ _ 22 rfl w.heap.size 2 i0 (.int .i64 0) 1 Tryz.underlying22 hi hz0 hz1 _ _ _ _ xs.length rfl rfl rfl rfl (by rw[hz2];omega) (by unfold maxLen;omega) (Nat.le_refl _) ?_;intro w1 hown hgrow)
 have F:Full w1 w.heap.size (xs.take 0++List.replicate (xs.length-0) 0):=own_full hown (by simp[cellsOf,toList_madeCells_one,Value.cells])
 have B:Below w.heap.size w w1:=(Below.refl _ _).grown hgrow (Nat.le_refl _) (fun k e=>by cases e)
 clear hown hgrow hi hz0 hz1 hz2
 go_loopw [4] (fun i wr=>∃k:Nat,k≤xs.length∧i = .int .i64 k∧Full wr w.heap.size (xs.take k++List.replicate (xs.length-k) 0)∧Below w.heap.size w wr) (fun i _=>xs.length-(intOf i).toNat)
 case atStart=>exact⟨0,Nat.zero_le _,rfl,F,B⟩
 case round=>
  obtain⟨k,hk,rfl,Fr,Br⟩:=hrel
  by_cases hlt:k<xs.length
  ·obtain⟨b,off,rfl,hb,hc⟩:=HC.out (by omega)
   have c0:wr.cell? ⟨b,off+k,none⟩=some (.int .i64 (xs.getD k 0)):=(Br.cell (p:=⟨b,off+k,none⟩) hb).trans (hc k hlt)
   have c1:wr.cell? ⟨w.heap.size,k,none⟩=some (.int .i64 ((xs.take k++List.replicate (xs.length-k) 0).getD k 0)):=full_cell Fr (by simp;omega)
   have c2:=full_frozen Fr k
   have F2:=full_set Fr k (xs.getD k 0)
   rw[set_take hlt]at F2
   have B2:Below w.heap.size w (wr.setCell ⟨w.heap.size,k,none⟩ (.int .i64 (xs.getD k 0))):=Br.setCell (Nat.le_refl _) _
   have HF:Hid _:=F2
   have HB:Hid _:=B2
   clear F2 B2 Fr Br hc F B
   generalize xs.getD k 0=x at *
   generalize (xs.take k++List.replicate (xs.length-k) 0).getD k 0=y at *
   go_wp2
   exact⟨⟨k+1,by omega,by go_num,HF,HB⟩,by simp[intOf];omega⟩
  ·have e:k=xs.length:=by omega
   subst e
   have F0:Full wr w.heap.size xs:=by simpa using Fr
   have HF:Hid (Full wr w.heap.size xs):=F0
   have HB:Hid (Below w.heap.size w wr):=Br
   clear Fr Br F B F0
   go_wp2
   go_ret
   exact⟨rfl,HF,HB⟩
set_option maxHeartbeats 1000000 in
theorem eqInt64S_any {w:World} {v1 v2:Value} {xs ys:List Int} (h1:IntsAt w v1 xs) (h2:IntsAt w v2 ys) (hl:xs.length≤1048576) :
    Calls Tryz.prog 24 #[v1,v2] w fun e w'=>e = .returned (.bool (decide (xs=ys)))∧∃n,w'=w.drewN n:=by
 obtain⟨a,cap,rfl,hlc,hcm,_,hc⟩:=h1
 obtain⟨a',cap',rfl,hlc',hcm',_,hc'⟩:=h2
 by_cases hn:xs.length=ys.length
 ·have HC:Hid (0<xs.length→∃b off,a=some ⟨b,off,none⟩∧b<w.heap.size∧∀i,i<xs.length→w.cell? ⟨b,off+i,none⟩=some (.int .i64 (xs.getD i 0))):=hc
  have HC':Hid (0<ys.length→∃b off,a'=some ⟨b,off,none⟩∧b<w.heap.size∧∀i,i<ys.length→w.cell? ⟨b,off+i,none⟩=some (.int .i64 (ys.getD i 0))):=hc'
  clear hc hc'
  have hni:(xs.length:Int)=(ys.length:Int):=by omega
  go_enter Tryz.func24,Tryz.ntmps24
  go_wp2_with fail
  go_loopw [5] (fun i wr=>∃k n:Nat,k≤xs.length∧i = .int .i64 k∧xs.take k=ys.take k∧wr=w.drewN n) (fun i _=>xs.length-(intOf i).toNat)
  case atStart=>exact⟨0,0,Nat.zero_le _,rfl,by simp,rfl⟩
  case round=>
   obtain⟨k,n,hk,rfl,ht,rfl⟩:=hrel
   by_cases hlt:k<xs.length
   ·obtain⟨b,off,rfl,hb,hc⟩:=HC.out (by omega)
    obtain⟨b',off',rfl,hb',hc'⟩:=HC'.out (by omega)
    have c0:=hc k hlt
    have c1:=hc' k (by omega)
    have HT:Hid (xs.getD k 0=ys.getD k 0→xs.take (k+1)=ys.take (k+1)):=fun e=>take_succ_eq ht hlt (by omega) e
    have HN:Hid (¬xs.getD k 0=ys.getD k 0→decide (xs=ys)=false):=fun e=>by simp only[decide_eq_false_iff_not];intro e';subst e';exact e rfl
    clear hc hc' ht HC HC'
    have hlt':k<ys.length:=by omega
    generalize xs.getD k 0=x at *
    generalize ys.getD k 0=y at *
    by_cases hxy:x=y
    ·go_wp2
     go_quiet (fail)
     go_wp2
     exact⟨⟨k+1,n+nq,by omega,by go_num,HT hxy,rfl⟩,by simp[intOf];omega⟩
    ·go_wp2
     go_quiet (fail)
     go_wp2
     go_ret
     exact⟨by rw[HN hxy];rfl,n+nq,by rw[World.drewN_drewN]⟩
   ·have e:xs=ys:=by
      have e1:xs.take k=xs:=List.take_of_length_le (by omega)
      have e2:ys.take k=ys:=List.take_of_length_le (by omega)
      rw[←e1,ht,e2]
    have HE:Hid (decide (xs=ys)=true):=by show _=true;simpa using e
    clear ht e HC HC'
    go_wp2
    go_ret
    exact⟨by rw[HE.out];rfl,_,rfl⟩
 ·have hni:¬(xs.length:Int)=(ys.length:Int):=by omega
  clear hc hc'
  go_enter Tryz.func24,Tryz.ntmps24
  go_wp2
  go_ret
  exact⟨by rw[decide_eq_false (fun e=>hn (by rw[e]))];rfl,0,rfl⟩
def marks (k:Int) (n:Nat):List Int:=(List.range n).map (fun i:Nat=>k+(i:Int))
theorem marks_length (k:Int) (n:Nat):(marks k n).length=n:=by simp[marks]
theorem marks_getD (k:Int) {n i:Nat} (h:i<n):(marks k n).getD i 0=k+i:=by simp[marks,List.getD_eq_getElem?_getD,h]
theorem marks_set {xs:List Int} {k:Nat} (k0:Int) (h:k<xs.length):(marks k0 k++xs.drop k).set k (k0+(k:Int))=marks k0 (k+1)++xs.drop (k+1):=by
 apply List.ext_getElem?
 intro i
 simp only[marks,List.getElem?_set,List.getElem?_append,List.length_map,List.length_range,List.getElem?_map,List.getElem?_drop,List.length_append,List.length_drop]
 grind
set_option maxHeartbeats 1000000 in
theorem markInt64S_any {w:World} {base:Nat} {v:Value} {xs:List Int} (h:Own w base v xs) (hl:xs.length≤1048576) (k0:Int) (hk0:0≤k0) (hk1:k0≤1048577) :
    Calls Tryz.prog 36 #[v,.int .i64 k0] w fun e w'=>e = .returned (.int .i64 (k0+xs.length))∧Own w' base v (marks k0 xs.length)∧w.grownBy w' v.ownBlock:=by
 have h':=h
 obtain⟨_,⟨rfl,hn⟩|⟨g,cap,cur,rfl,hg,hh,hle,hm,hs,ht⟩⟩:=h
 ·have e:xs=[]:=by simpa using hn
  subst e
  have HO:Hid (Own w base (.slice none 0 0) (marks k0 0)):=h'
  clear h' hn
  go_enter Tryz.func36,Tryz.ntmps36
  go_wp2
  refine wp_loop_rounds 1 ?_
  rw[rounds_succ]
  go_wp2
  go_ret
  exact⟨by simp,HO,World.grownBy.refl _ _⟩
 ·have HO:Hid (w.ownsRow base 2 1 (.slice (some ⟨g,0,none⟩) xs.length cap) xs.length (cellsOf (marks k0 0++xs.drop 0))):=h'
  clear h' hg hh hs ht cur
  go_enter Tryz.func36,Tryz.ntmps36
  go_wp2_with fail
  go_loopw [1,5] (fun q i wr=>∃k:Nat,k≤xs.length∧i = .int .i64 k∧q = .int .i64 (k0+(k:Int))∧wr.ownsRow base 2 1 (.slice (some ⟨g,0,none⟩) xs.length cap) xs.length (cellsOf (marks k0 k++xs.drop k))∧w.grownBy wr (some g)) (fun _ i _=>xs.length-(intOf i).toNat)
  case atStart=>exact⟨0,Nat.zero_le _,rfl,by simp,HO,World.grownBy.refl _ _⟩
  case round=>
   obtain⟨k,hk,rfl,rfl,Or,Gr⟩:=hrel
   by_cases hlt:k<xs.length
   ·have c0:=World.ownsRow.cellAt Or k (by omega)
    have c1:=World.ownsRow.frozenAt Or k
    have S:=World.ownsRow.stored Or k (.int .i64 (k0+(k:Int)))
    have e1:(cellsOf (marks k0 k++xs.drop k)).set k (.int .i64 (k0+(k:Int)))=cellsOf (marks k0 (k+1)++xs.drop (k+1)):=by
     rw[←marks_set k0 hlt];simp[cellsOf,List.map_set]
    rw[e1]at S
    have HS:Hid _:=S.1
    have HG:Hid (w.grownBy (wr.setCell ⟨g,k,none⟩ (.int .i64 (k0+(k:Int)))) (some g)):=⟨S.2.os.trans Gr.os,S.2.tape.trans Gr.tape,S.2.output.trans Gr.output,Nat.le_trans Gr.size S.2.size,fun i hi hne=>(S.2.block i (Nat.lt_of_lt_of_le hi Gr.size) hne).trans (Gr.block i hi hne)⟩
    have c2:∃y,(cellsOf (marks k0 k++xs.drop k))[k]? = some y:=⟨_,List.getElem?_eq_getElem (by simp[marks];omega)⟩
    obtain⟨y,hy⟩:=c2
    rw[hy]at c0
    clear Or Gr S e1 HO hy
    go_wp2
    exact⟨⟨k+1,by omega,by go_num,by go_num,HS,HG⟩,by simp[intOf];omega⟩
   ·have e:k=xs.length:=by omega
    subst e
    have HS:Hid (Own wr base (.slice (some ⟨g,0,none⟩) xs.length cap) (marks k0 xs.length)):=by
     show World.ownsRow wr base _ 1 _ (marks k0 xs.length).length _
     rw[marks_length]
     simpa using Or
    have HG:Hid _:=Gr
    clear Or Gr HO
    go_wp2
    go_ret
    exact⟨rfl,HS,HG⟩
set_option maxHeartbeats 1000000 in
theorem heldInt64S_any {w:World} {v:Value} {n:Nat} (k0:Int) (h:IntsAt w v (marks k0 n)) (hl:n≤1048576) (hk0:0≤k0) (hk1:k0≤1048577) :
    Calls Tryz.prog 37 #[v,.int .i64 k0] w fun e w'=>e = .returned (.int .i64 (k0+n))∧w'=w:=by
 obtain⟨a,cap,rfl,hlc,hcm,_,hc⟩:=h
 rw[marks_length]at *
 have HC:Hid _:=hc
 clear hc
 go_enter Tryz.func37,Tryz.ntmps37
 go_wp2_with fail
 go_loop [1,5] (fun q i=>∃k:Nat,k≤n∧i = .int .i64 k∧q = .int .i64 (k0+(k:Int))) (fun _ i=>n-(intOf i).toNat)
 case atStart=>exact⟨0,Nat.zero_le _,rfl,by simp⟩
 case round=>
  obtain⟨k,hk,rfl,rfl⟩:=hrel
  by_cases hlt:k<n
  ·obtain⟨b,off,rfl,hb,hc⟩:=HC.out (by omega)
   have c0:=hc k hlt
   rw[marks_getD k0 hlt]at c0
   clear hc HC
   go_wp2
   go_round
   case rel=>exact⟨k+1,by omega,by go_num,by go_num⟩
   case measure=>simp[intOf];omega
  ·have e:k=n:=by omega
   subst e
   go_wp2
   go_ret
   exact⟨rfl,rfl⟩
end Go.Proofs.YtemlagfaaibenaaGreat.rows
namespace Go.Proofs.YtemlagfaaibenaaGreat.rows
open Go.RowKit
set_option maxRecDepth 100000
def In (lo hi:Nat) (v:Value):Prop:=∀k,v.ownBlock=some k→lo≤k∧k<hi
theorem own_in {w:World} {base:Nat} {v:Value} {xs:List Int} (h:Own w base v xs):In base w.heap.size v:=fun k e=>World.ownsRow.lt h k e
theorem intsAt_drewN {w:World} {n:Nat} {v:Value} {xs:List Int} (h:IntsAt w v xs):IntsAt (w.drewN n) v xs:=h
end Go.Proofs.YtemlagfaaibenaaGreat.rows
namespace Go.Proofs.YtemlagfaaibenaaGreat.rows
open Go.RowKit
end Go.Proofs.YtemlagfaaibenaaGreat.rows
namespace Go.Proofs.YtemlagfaaibenaaGreat.ents
open Go.RowKit rows
abbrev Ent:=Int×ByteArray
abbrev ev (e:Ent):Value:=.agg #[.int .i64 e.1,.string e.2]
end Go.Proofs.YtemlagfaaibenaaGreat.ents
namespace Go.Proofs.YtemlagfaaibenaaGreat.region
open Go
theorem count_set (l:Array Bool) (i:Nat) (h:l.getD i true=false):(l.setIfInBounds i true).toList.count false+1=l.toList.count false:=by
 have hi:i<l.size:=by
  rcases Nat.lt_or_ge i l.size with h'|h'
  ·exact h'
  ·simp[Array.getD,Nat.not_lt.2 h']at h
 have he:l.toList[i]'(by simpa using hi)=false:=by
  simpa [Array.getD,hi] using h
 rw[Array.toList_setIfInBounds,List.count_set (by simpa using hi)]
 have hc:0<l.toList.count false:=List.count_pos_iff.2 (by rw[←he];exact List.getElem_mem _)
 simp[he]
 have hc':0<l.count false:=by simpa using hc
 omega
theorem wpAny_inv {P:Program} {md:Region.Mode} {ops:Array Oper} {Q:Exit→Act→World→Prop} (I:Array Bool→Act→World→Prop)
    (fin:∀l a w,I l a w→Region.ready md ops l=[]→Q .normal a w)
    (stp:∀l a w i,I l a w→i ∈ Region.ready md ops l→wpOp P ops Q i (I (l.setIfInBounds i true)) a w) :
    ∀(fuel:Nat) (l:Array Bool) (a:Act) (w:World),l.toList.count false≤fuel→I l a w→wpAny P md ops Q fuel l a w
 |0,l,a,w,hc,h=>by
  have e:Region.ready md ops l=[]:=by
   rw[List.eq_nil_iff_forall_not_mem]
   intro i hi
   have:=count_set l i (mem_ready.1 hi).1
   omega
  exact⟨e,fin l a w h e⟩
 |fuel+1,l,a,w,hc,h=>by
  refine⟨fun e=>fin l a w h e,fun i hi=>wpOp_mono (fun a' w' h' => ?_) (stp l a w i h hi)⟩
  have:=count_set l i (mem_ready.1 hi).1
  exact wpAny_inv I fin stp fuel _ a' w' (by omega) h'
theorem wp_region_inv {P:Program} {id:Nat} {ops:Array Oper} {Q:Exit→Act→World→Prop} {a:Act} {w:World} (hm:P.follows .mixedOrders=true) (I:Array Bool→Act→World→Prop)
    (start:I (Array.replicate ops.size false) a w.drew)
    (fin:∀l a w,I l a w→Region.ready .any ops l=[]→Q .normal a w)
    (stp:∀l a w i,I l a w→i ∈ Region.ready .any ops l→wpOp P ops Q i (I (l.setIfInBounds i true)) a w):(Code.region id ops true).wp P Q a w:=
 wp_region_any hm (wpAny_inv I fin stp _ _ _ _ (by simp) start)
def ovr (D:Nat→Bool) (a0:Act) (u:Nat→Value):Act:= { a0 with tmps:=((List.range a0.tmps.size).map fun s=>if D s then u s else a0.tmps.getD s undef).toArray }
def upd (u:Nat→Value) (d:Nat) (v:Value):Nat→Value:=fun s=>if s=d then v else u s
theorem getD_at (t:Array Value) (s:Nat):t.getD s undef=t[s]?.getD undef:=by
 rw[Array.getD_eq_getD_getElem?]
theorem ovr_at (D:Nat→Bool) (a0:Act) (u:Nat→Value) (s:Nat) (hs:s<a0.tmps.size):(ovr D a0 u).tmps[s]? = some (if D s then u s else a0.tmps.getD s undef):=by
 simp[ovr,hs]
theorem ovr_size (D:Nat→Bool) (a0:Act) (u:Nat→Value):(ovr D a0 u).tmps.size=a0.tmps.size:=by simp[ovr]
theorem ovr_self (D:Nat→Bool) (a0:Act):ovr D a0 (fun s=>a0.tmps.getD s undef)=a0:=by
 cases a0 with
 |mk tmps defers=>
  unfold ovr
  congr 1
  apply Array.ext_getElem?
  intro s
  rcases Nat.lt_or_ge s tmps.size with h|h
  ·simp[h]
  ·simp[h]
theorem ovr_put {D:Nat→Bool} {a0:Act} {u:Nat→Value} {d:Nat} {v:Value} (hd:D d=true):(ovr D a0 u).put (some d) v=ovr D a0 (upd u d v):=by
 have e:((ovr D a0 u).put (some d) v).tmps=(ovr D a0 (upd u d v)).tmps:=by
  show (ovr D a0 u).tmps.setIfInBounds d v=_
  apply Array.ext_getElem?
  intro s
  rcases Nat.lt_or_ge s a0.tmps.size with h|h
  ·rw[ovr_at D a0 _ s h,Array.getElem?_setIfInBounds]
   by_cases hs:d=s
   ·subst hs
    rw[if_pos rfl,ovr_size,if_pos h,if_pos hd]
    simp[upd]
   ·rw[if_neg hs,ovr_at D a0 _ s h]
    have:¬s=d:=fun e=>hs e.symm
    simp[upd,this]
  ·rw[Array.getElem?_eq_none (by simpa [ovr_size] using h),Array.getElem?_eq_none (by simpa [ovr_size] using h)]
 have e':((ovr D a0 u).put (some d) v).defers=(ovr D a0 (upd u d v)).defers:=rfl
 cases h1:(ovr D a0 u).put (some d) v
 cases h2:ovr D a0 (upd u d v)
 rw[h1,h2]at e e'
 simp only at e e'
 rw[e,e']
theorem all_listed {ops:Array Oper} {l:Array Bool} (hacyc:∀(k:Nat) (o:Oper),ops[k]? = some o→∀e ∈ o.after,e.on<k) (hl:l.size=ops.size) (h:Region.ready .any ops l=[]):∀k,k<ops.size→l.getD k false=true:=by
 intro k
 induction k using Nat.strongRecOn with
 |ind k ih=>
  intro hk
  have hl':k<l.size:=by omega
  cases hv:l.getD k false with
  |true=>rfl
  |false=>
   have h1:l.getD k true=false:=by
    simp only[Array.getD,hl',dite_true]at hv ⊢
    exact hv
   have:k ∈ Region.ready .any ops l:=mem_ready.2 ⟨h1,ops[k],Array.getElem?_eq_getElem hk,fun e he _=>ih e.on (hacyc k _ (Array.getElem?_eq_getElem hk) e he) (by have:=hacyc k _ (Array.getElem?_eq_getElem hk) e he;omega)⟩
   rw[h]at this
   cases this
theorem wp_region_facts {P:Program} {id:Nat} {ops:Array Oper} {Q:Exit→Act→World→Prop} {a0:Act} {w:World} (hm:P.follows .mixedOrders=true) (D:Nat→Bool)
    (hg:∀o ∈ ops,o.guard=none) (hacyc:∀(k:Nat) (o:Oper),ops[k]? = some o→∀e ∈ o.after,e.on<k)
    (I:Array Bool→(Nat→Value)→World→Prop)
    (start:I (Array.replicate ops.size false) (fun s=>a0.tmps.getD s undef) w.drew)
    (fin:∀l u w,I l u w→(∀k,k<ops.size→l.getD k false=true)→Q .normal (ovr D a0 u) w)
    (stp:∀l u w k o,I l u w→l.size=ops.size→l.getD k false=false→ops[k]? = some o→(∀e ∈ o.after,Region.binds .any e=true→l.getD e.on false=true) →
     o.wp P (ovr D a0 u) w (fun a' w'=>∃u',a'=ovr D a0 u'∧I (l.setIfInBounds k true) u' w') Q):(Code.region id ops true).wp P Q a0 w:=by
 refine wp_region_inv hm (fun l a w=>l.size=ops.size∧∃u,a=ovr D a0 u∧I l u w) ⟨by simp,_,(ovr_self D a0).symm,start⟩ ?_ ?_
 ·rintro l a w ⟨hl,u,rfl,h⟩ hr
  exact fin l u w h (all_listed hacyc hl hr)
 ·rintro l a w i ⟨hl,u,rfl,h⟩ hi
  obtain⟨h1,o,ho,hd⟩:=mem_ready.1 hi
  have hi':i<ops.size:=(Array.getElem?_eq_some_iff.1 ho).1
  have h1':l.getD i false=false:=by
   have hl':i<l.size:=by omega
   simp only[Array.getD,hl',dite_true]at h1 ⊢
   exact h1
  have hgo:=hg o (Array.mem_of_getElem? ho)
  unfold wpOp
  rw[ho]
  simp only
  rw[if_pos (by simp[Region.wanted,hgo])]
  refine .inl (Oper.wp_mono (fun a' w' h' => ?_) (stp l u w i o h hl h1' ho hd))
  obtain⟨u',e,h'⟩:=h'
  exact⟨by simpa using hl,u',e,h'⟩
theorem getD_other (l:Array Bool) {k j:Nat} (h:¬k=j):(l.setIfInBounds k true).getD j false=l.getD j false:=by
 rw[Array.getD_eq_getD_getElem?, Array.getElem?_setIfInBounds,if_neg h,Array.getD_eq_getD_getElem?]
theorem facts_put {n:Nat} {F:Nat→Value→World→Prop} {dst:Nat→Nat} {l:Array Bool} {u:Nat→Value} {w w':World} {k:Nat} {v:Value} (hi:∀j,j<n→dst j=dst k→j=k)
    (H:∀j,j<n→l.getD j false=true→F j (u (dst j)) w) (hs:∀j,j<n→j≠k→l.getD j false=true→∀t,F j t w→F j t w') (hv:F k v w') :
    ∀j,j<n→(l.setIfInBounds k true).getD j false=true→F j (upd u (dst k) v (dst j)) w':=by
 intro j hj hlj
 by_cases e:j=k
 ·subst e
  simp only[upd,if_true]
  exact hv
 ·have:¬dst j=dst k:=fun e'=>e (hi j hj e')
  simp only[upd,this,if_false]
  have hlj':l.getD j false=true:=by rwa [getD_other l (Ne.symm e)]at hlj
  exact hs j hj e hlj' _ (H j hj hlj')
theorem listed_ne {l:Array Bool} {k:Nat} (hk:k<l.size):(l.setIfInBounds k true).getD k false=true:=by
 simp[Array.getD,hk]
theorem wp_value {P:Program} {o:Oper} {a:Act} {w w':World} {K:Act→World→Prop} {Q:Exit→Act→World→Prop} {v:Value} (h:(execOp a.eval o).run P w = .ok (.value v) w') (hk:K (a.put o.dst v) w'):o.wp P a w K Q:=by
 unfold Oper.wp
 rw[h]
 exact hk
theorem wp_call {P:Program} {o:Oper} {a:Act} {w:World} {K:Act→World→Prop} {Q:Exit→Act→World→Prop} {f:FuncId} {args:Array Value} (h:(execOp a.eval o).run P w = .ok (.enter f args) w) (hk:Calls P f args w fun e w'=>∃v,e = .returned v∧K (a.put o.dst v) w'):o.wp P a w K Q:=by
 unfold Oper.wp
 rw[h,Oper.upon_enter]
 refine hk.mono ?_
 rintro e w' ⟨v,rfl,h⟩
 exact h
theorem eval_in {D:Nat→Bool} {a0:Act} {u:Nat→Value} {s:Nat} (hd:D s=true) (hs:s<a0.tmps.size):(ovr D a0 u).eval (.tmp s)=u s:=by
 show (ovr D a0 u).tmps.getD s undef=_
 rw[getD_at,ovr_at D a0 u s hs,hd]
 rfl
theorem eval_out {D:Nat→Bool} {a0:Act} {u:Nat→Value} {s:Nat} (hd:D s=false) (hs:s<a0.tmps.size):(ovr D a0 u).eval (.tmp s)=a0.tmps.getD s undef:=by
 show (ovr D a0 u).tmps.getD s undef=_
 rw[getD_at,ovr_at D a0 u s hs,hd]
 rfl
theorem put_in {D:Nat→Bool} {a0:Act} {o:Oper} {d:Nat} (ho:o.dst=some d) (hd:D d=true) (u:Nat→Value) (v:Value):(ovr D a0 u).put o.dst v=ovr D a0 (upd u d v):=by
 rw[ho]
 exact ovr_put hd
theorem put_no {D:Nat→Bool} {a0:Act} {o:Oper} (ho:o.dst=none) (u:Nat→Value) (v:Value):(ovr D a0 u).put o.dst v=ovr D a0 u:=by
 rw[ho]
 rfl
end Go.Proofs.YtemlagfaaibenaaGreat.region
namespace Go.Proofs.YtemlagfaaibenaaGreat.region
open Go Go.RowKit
theorem wp_region_plain {P:Program} {id:Nat} {ops:Array Oper} {Q:Exit→Act→World→Prop} {a0:Act} {w:World} (hm:P.follows .mixedOrders=true) (D:Nat→Bool)
    (hg:∀o ∈ ops,o.guard=none) (hacyc:∀(k:Nat) (o:Oper),ops[k]? = some o→∀e ∈ o.after,e.on<k) (n:Nat) (hn:ops.size=n+1) (dst:Nat→Nat) (hinj:∀k,k<n→∀j,j<n→dst j=dst k→j=k)
    (F:Nat→Value→World→Prop) (hst:∀k t W W',Below W.heap.size W W'→F k t W→F k t W')
    (hall:∀o,ops[n]? = some o→∀j,j<n→∃e ∈ o.after,e.on=j∧Region.binds .any e=true)
    (step:∀k o u W,k<n→ops[k]? = some o→Below w.heap.size w W→(∀j,j<n→(∃e ∈ o.after,e.on=j∧Region.binds .any e=true)→F j (u (dst j)) W)→o.wp P (ovr D a0 u) W (fun a' W'=>∃v,a'=ovr D a0 (upd u (dst k) v)∧Below W.heap.size W W'∧F k v W') Q)
    (last:∀o u W,ops[n]? = some o→Below w.heap.size w W→(∀j,j<n→F j (u (dst j)) W)→o.wp P (ovr D a0 u) W (fun a' W'=>∃u',a'=ovr D a0 u'∧Q .normal (ovr D a0 u') W') Q) :
    (Code.region id ops true).wp P Q a0 w:=by
 refine wp_region_facts hm D hg hacyc (fun l u W=>(l.getD n false=false∧Below w.heap.size w W∧∀k,k<n→l.getD k false=true→F k (u (dst k)) W)∨((∀k,k<n+1→l.getD k false=true)∧Q .normal (ovr D a0 u) W)) (.inl ⟨?_,(Below.refl _ w).drew,fun k hk h => ?_⟩) ?_ ?_
 ·simp[Array.getD,hn]
 ·simp[Array.getD,hn,show k<n+1 by omega]at h
 ·rintro l u W (⟨h1,_⟩|⟨_,h⟩) hA
  ·rw[hA n (by omega)]at h1
   cases h1
  ·exact h
 ·rintro l u W k o (⟨h1,hB,hF⟩|⟨hA,_⟩) hl hlk ho hd
  case inr=>
   have hk:k<n+1:=by rw[←hn];exact (Array.getElem?_eq_some_iff.1 ho).1
   rw[hA k hk]at hlk
   cases hlk
  have hk:k<n+1:=by rw[←hn];exact (Array.getElem?_eq_some_iff.1 ho).1
  by_cases e:k=n
  ·subst e
   have hA:∀j,j<k→l.getD j false=true:=fun j hj=>by
    obtain⟨e,he,rfl,hb⟩:=hall o ho j hj
    exact hd e he hb
   refine Oper.wp_mono ?_ (last o u W ho hB (fun j hj=>hF j hj (hA j hj)))
   rintro a' W' ⟨u',rfl,h⟩
   refine⟨u',rfl,.inr ⟨fun j hj => ?_,h⟩⟩
   by_cases e:j=k
   ·subst e;exact listed_ne (by omega)
   ·rw[getD_other l (Ne.symm e)];exact hA j (by omega)
  ·have hk':k<n:=by omega
   refine Oper.wp_mono ?_ (step k o u W hk' ho hB (fun j hj ⟨e,he,e1,hb⟩=>hF j hj (by rw[←e1];exact hd e he hb)))
   rintro a' W' ⟨v,rfl,hb,hv⟩
   refine⟨_,rfl,.inl ⟨?_,hB.trans (hb.mono hB.size),?_⟩⟩
   ·rw[getD_other l e];exact h1
   ·exact facts_put (dst:=dst) (hinj k hk') hF (fun j _ _ _ t=>hst j t W W' hb) hv
theorem wp_skip' {P:Program} {o:Oper} {a:Act} {w w':World} {K:Act→World→Prop} {Q:Exit→Act→World→Prop} (h:(execOp a.eval o).run P w = .ok .skip w') (hk:K (a.put o.dst undef) w'):o.wp P a w K Q:=by
 unfold Oper.wp
 rw[h]
 exact hk
theorem wanted_none {ops:Array Oper} {o:Oper} {t:Array Value} (h:o.guard=none):Region.wanted o (yielded ops t)=true:=by simp[Region.wanted,h]
theorem wanted_some {ops:Array Oper} {o og:Oper} {D:Nat→Bool} {a0:Act} {u:Nat→Value} {g d:Nat} {b c:Bool} (h:o.guard=some (g,b)) (hg:ops[g]? = some og) (hd:og.dst=some d) (hD:D d=true) (hs:d<a0.tmps.size) (hu:u d = .bool c):Region.wanted o (yielded ops (ovr D a0 u).tmps)=(c==b):=by
 have hy:yielded ops (ovr D a0 u).tmps g=some c:=by
  unfold yielded
  rw[hg]
  simp only[Option.bind_some,hd]
  rw[ovr_at D a0 u d hs,hD,if_pos rfl,hu]
 simp only[Region.wanted,h,hy]
 cases b<;>cases c<;>rfl
theorem wp_region_seq {P:Program} {id:Nat} {ops:Array Oper} {Q:Exit→Act→World→Prop} {a0:Act} {w:World} (D:Nat→Bool) (R:World→World→Prop) (Rtr:∀a b c,R a b→R b c→R a c) (Rrf:R w w)
    (n:Nat) (hn:ops.size=n) (dst:Nat→Nat) (hinj:∀k,k<n→∀j,j<n→dst j=dst k→j=k)
    (F:Nat→Value→World→Prop) (hst:∀k t W W',R W W'→F k t W→F k t W')
    (step:∀k o u W,k<n→ops[k]? = some o→R w W→(∀j,j<k→F j (u (dst j)) W) →
     (Region.wanted o (yielded ops (ovr D a0 u).tmps)=true∧o.wp P (ovr D a0 u) W (fun a' W'=>∃v,a'=ovr D a0 (upd u (dst k) v)∧R W W'∧F k v W') Q) ∨
     (Region.wanted o (yielded ops (ovr D a0 u).tmps)=false∧o.dst=some (dst k)∧D (dst k)=true∧F k undef W))
    (fin:∀u W,R w W→(∀j,j<n→F j (u (dst j)) W)→Q .normal (ovr D a0 u) W) :
    (Code.region id ops false).wp P Q a0 w:=by
 have put:∀(k:Nat) (u:Nat→Value) (v:Value) (W W':World),k<n→(∀j,j<k→F j (u (dst j)) W)→(∀j t,F j t W→F j t W')→F k v W'→∀j,j<k+1→F j (upd u (dst k) v (dst j)) W':=by
  intro k u v W W' hk hF hs hv j hj
  by_cases e:j=k
  ·subst e
   simp only[upd,if_true]
   exact hv
  ·have:¬dst j=dst k:=fun e'=>e (hinj k hk j (by omega) e')
   simp only[upd,this,if_false]
   exact hs j _ (hF j (by omega))
 have main:∀(l:List Oper) (k:Nat) (u:Nat→Value) (W:World),ops.toList.drop k=l→k≤n→R w W→(∀j,j<k→F j (u (dst j)) W)→wpList P ops Q l (ovr D a0 u) W:=by
  intro l
  induction l with
  |nil=>
   intro k u W hl hk hR hF
   have:n≤k:=by
    have:=congrArg List.length hl
    simp at this
    omega
   exact fin u W hR fun j hj=>hF j (by omega)
  |cons o l ih=>
   intro k u W hl hk hR hF
   have hk':k<n:=by
    have:=congrArg List.length hl
    simp at this
    omega
   have ho:ops[k]? = some o:=by
    have h0:=congrArg (fun l=>l[0]?) hl
    simpa using h0
   have hl':ops.toList.drop (k+1)=l:=by
    have h0:=congrArg List.tail hl
    simpa using h0
   rcases step k o u W hk' ho hR hF with ⟨hw,h⟩|⟨hw,hds,hD,h⟩
   ·show if _ then _ else _
    rw[if_pos hw]
    refine .inl (Oper.wp_mono (fun a' W' h' => ?_) h)
    obtain⟨v,rfl,hR',hv⟩:=h'
    exact ih (k+1) _ W' hl' hk' (Rtr _ _ _ hR hR') (put k u v W W' hk' hF (fun j t=>hst j t W W' hR') hv)
   ·show if _ then _ else _
    rw[if_neg (by rw[hw];simp),hds,ovr_put hD]
    exact ih (k+1) _ W hl' hk' hR (put k u undef W W hk' hF (fun _ _ h=>h) h)
 refine wp_region_list ?_
 have:=main ops.toList 0 (fun s=>a0.tmps.getD s undef) w (by simp) (Nat.zero_le _) Rrf (fun j hj=>by omega)
 rwa [ovr_self]at this
end Go.Proofs.YtemlagfaaibenaaGreat.region
namespace Go.Proofs.YtemlagfaaibenaaGreat.copyk
open Go.RowKit
theorem run_copy_k {P:Program} (w:World) (dT sT ty elem:TypeId) (sz:Nat) (hz:0<sz) (hu:P.underlying dT=some (.slice elem)) (hs:(P.info? elem).map (·.size)=some sz)
    (dp sp:Option Addr) (dLen dCap sLen sCap:Nat) (g off:Nat) (cur:List Value) (t:TypeId) (hg:w.heap[g]? = some (.cells cur.toArray t (0,0))) (cs:List Value) (hn:cs.length=Nat.min sLen dLen*sz)
    (hpos:0<cs.length→dp=some ⟨g,off,none⟩∧∃ad,sp=some ad∧∀j v,cs[j]? = some v→w.cell? (ad.add j)=some v)
    (hfit:off+cs.length≤cur.length) (h1:∀v ∈ cs,v.oneCell'=true) :
    (Builtin.copy_ #[dT,sT] ty #[.slice dp dLen dCap,.slice sp sLen sCap]).run P w = .ok (goInt (Nat.min sLen dLen)) (w.setRow g (splice cur off cs).toArray):=by
 cases hq:P.info? elem with
 |none=>simp[hq]at hs
 |some i=>
  have hi:i.size=sz:=by simpa [hq] using hs
  by_cases h0:cs.length=0
  ·obtain rfl:cs=[]:=List.eq_nil_of_length_eq_zero h0
   have hm:Nat.min sLen dLen=0:=by
    rcases Nat.mul_eq_zero.1 hn.symm with h|h
    ·exact h
    ·omega
   have e:w.setRow g (splice cur off []).toArray=w:=by
    have:=setRow_self w g cur.toArray t (0,0) hg
    simpa [splice] using this
   rw[e,hm]
   have hl:∀(x:Addr),(loadCells x 0).run P w = .ok #[] w:=fun x=>by simpa using run_loadCells_list (P:=P) w x [] (by simp)
   cases dp<;>cases sp<;>simp[Builtin.copy_,run_underlying hu,Builtin.lenOf,Builtin.firstCells,sizeOf,typeInfo,hq,hm,storeCells,hl]
  ·obtain⟨rfl,ad,rfl,hsrc⟩:=hpos (by omega)
   have hl:=run_loadCells_list (P:=P) w ad cs hsrc
   have hst:=run_storeCells_at P g off t cs 0 cur.toArray w hg (by simpa using hfit) h1
   rw[hn]at hl
   simp[Builtin.copy_,run_underlying hu,Builtin.lenOf,Builtin.firstCells,sizeOf,typeInfo,hq,hi,hl,hst,splice]
theorem step_copy_k {P:Program} {ops:Array Oper} {o:Oper} {a:Act} {w:World} {K:Act→World→Prop} {Q:Exit→Act→World→Prop} {E:Prop} (hgd:o.guard=none) (d s:Operand) (dT sT:TypeId)
    (ho:o.op = .call { callee:=.builtin .copy,args:=#[d,s],argTypes:=#[dT,sT] }) (elem:TypeId) (sz:Nat) (hz:0<sz) (hu:P.underlying dT=some (.slice elem)) (hsz:(P.info? elem).map (·.size)=some sz)
    (dp sp:Option Addr) (dLen dCap sLen sCap:Nat) (hd:a.eval d = .slice dp dLen dCap) (hs:a.eval s = .slice sp sLen sCap)
    (g off:Nat) (cur:List Value) (t:TypeId) (hg:w.heap[g]? = some (.cells cur.toArray t (0,0))) (cs:List Value) (hn:cs.length=Nat.min sLen dLen*sz)
    (hpos:0<cs.length→dp=some ⟨g,off,none⟩∧∃ad,sp=some ad∧∀j v,cs[j]? = some v→w.cell? (ad.add j)=some v)
    (hfit:off+cs.length≤cur.length) (h1:∀v ∈ cs,v.oneCell'=true) (B:Nat) (w0:World) (hb:Below B w0 w) (hBg:B≤g)
    (h:∀w',Hid (w'.heap[g]? = some (.cells (splice cur off cs).toArray t (0,0)))→Hid (∀k,k≠g→w'.heap[k]? = w.heap[k]?)→Below B w0 w'→K (a.put o.dst (goInt (Nat.min sLen dLen))) w') :
    if Region.wanted o (yielded ops a.tmps)=true then Oper.wp P o a w K Q else E:=by
 have hw:Region.wanted o (yielded ops a.tmps)=true:=by simp[Region.wanted,hgd]
 rw[if_pos hw]
 have hrun:=run_copy_k (P:=P) w dT sT o.type elem sz hz hu hsz dp sp dLen dCap sLen sCap g off cur t hg cs hn hpos hfit h1
 unfold Oper.wp
 simp[execOp,ho,resolve,invoke,builtin,hd,hs,hrun,Result.andThen]
 exact h (w.setRow g (splice cur off cs).toArray) (setRow_heap w g _ _ t _ hg) (fun k hk=>setRow_other w g k _ hk) (below_setRow hb hBg _)
theorem run_clear_k {P:Program} (w:World) (t e ty:TypeId) (z:Value) (sz:Nat) (hu:P.underlying t=some (.slice e)) (hv:∀w,(zeroValue e).run P w = .ok z w)
    (ap:Option Addr) (n c:Nat) (g off:Nat) (cur:List Value) (ct:TypeId) (hg:w.heap[g]? = some (.cells cur.toArray ct (0,0))) (hpos:0<n→ap=some ⟨g,off,none⟩)
    (hl:(Builtin.zeroCells z.cells n).toList.length=n*sz) (h1:∀v ∈ (Builtin.zeroCells z.cells n).toList,v.oneCell'=true) (hfit:off+n*sz≤cur.length) :
    ∃w',(Builtin.clear_ #[t] ty #[.slice ap n c]).run P w = .ok (.tuple #[]) w'∧w'.heap[g]? = some (.cells (if n=0 then cur else splice cur off (Builtin.zeroCells z.cells n).toList).toArray ct (0,0))∧(∀k,k≠g→w'.heap[k]? = w.heap[k]?)∧∀ {B:Nat} {w0:World},Below B w0 w→B≤g→Below B w0 w':=by
 cases n with
 |zero=>
  refine⟨w,?_,by simpa using hg,fun _ _=>rfl,fun h _=>h⟩
  cases ap<;>simp[Builtin.clear_,run_underlying hu]
 |succ n=>
  obtain rfl:=hpos (by omega)
  have hst:=run_storeCells_at P g off ct (Builtin.zeroCells z.cells (n+1)).toList 0 cur.toArray w hg (by rw[hl];simpa using hfit) h1
  refine⟨w.setRow g (splice cur off (Builtin.zeroCells z.cells (n+1)).toList).toArray,?_,?_,fun k hk=>setRow_other w g k _ hk,fun h h'=>below_setRow h h' _⟩
  ·simp only[Builtin.clear_]
   simp[run_underlying hu,hv,hst,splice]
  ·simpa using setRow_heap w g _ (splice cur off (Builtin.zeroCells z.cells (n+1)).toList).toArray ct _ hg
end Go.Proofs.YtemlagfaaibenaaGreat.copyk
namespace Go.Proofs.YtemlagfaaibenaaGreat.rows
open Go.RowKit
set_option maxRecDepth 100000
theorem isRow_any {w:World} {v:Value} {xs:List Int} (h:IntsAt w v xs) :
    Calls Tryz.prog 124 #[v] w fun e w'=>e = .returned (.bool (rowOk xs))∧w'=w:=by
 obtain⟨a,cap,rfl,hlc,hcm,_,hc⟩:=h
 clear hc
 by_cases h1:xs.length≤1000
 ·have h2:(xs.length:Int)≤1000:=by omega
  go_enter Tryz.func124,Tryz.ntmps124
  go_wp2
  go_ret
  exact⟨by simp[rowOk,h1],rfl⟩
 ·have h2:¬(xs.length:Int)≤1000:=by omega
  go_enter Tryz.func124,Tryz.ntmps124
  go_wp2
  go_ret
  exact⟨by simp[rowOk];omega,rfl⟩
def cutOk (len:Nat) (f n:Int):Bool:=decide (0≤f∧0≤n∧f+n≤len)
theorem cutOk_true {len:Nat} {f n:Int} (h:cutOk len f n=true):0≤f∧0≤n∧f+n≤len:=by simpa [cutOk] using h
theorem cutOk_false {len:Nat} {f n:Int} (h:cutOk len f n=false):¬(0≤f∧0≤n∧f+n≤len):=by simpa [cutOk] using h
def piece (a:Option Addr) (f n:Nat):Value:=.slice (if n=0 then a else a.map (·.add f)) n n
theorem cut_no {w:World} {a:Option Addr} {len cap:Nat} (hlc:len≤cap) (hcm:cap≤maxLen) (f n:Int) (hf:I64 f) (hn:I64 n) (d:cutOk len f n=false) :
    Calls Tryz.prog 143 #[.slice a len cap,.int .i64 f,.int .i64 n] w fun e w'=>e = .returned (.tuple #[.slice none 0 0,.bool false])∧w'=w:=by
 unfold I64 at hf hn
 unfold maxLen at hcm
 have d':=cutOk_false d
 clear d
 by_cases h1:f<0
 ·go_enter Tryz.func143,Tryz.ntmps143
  go_wp2
  go_ret2
  exact⟨rfl,rfl⟩
 ·by_cases h2:n<0
  ·go_enter Tryz.func143,Tryz.ntmps143
   go_wp2
   go_ret2
   exact⟨rfl,rfl⟩
  ·have h3:n > (len:Int)-f:=by omega
   go_enter Tryz.func143,Tryz.ntmps143
   go_wp2
   go_ret2
   exact⟨rfl,rfl⟩
theorem cut_yes {w:World} {a:Option Addr} {len cap:Nat} (hlc:len≤cap) (hcm:cap≤maxLen) (F N:Nat) (fn:F+N≤len) :
    Calls Tryz.prog 143 #[.slice a len cap,.int .i64 F,.int .i64 N] w fun e w'=>e = .returned (.tuple #[piece a F N,.bool true])∧w'=w:=by
 unfold maxLen at hcm
 have h1:¬(F:Int)<0:=by omega
 have h2:¬(N:Int)<0:=by omega
 have h3:¬(N:Int) > (len:Int)-F:=by omega
 go_enter Tryz.func143,Tryz.ntmps143
 go_wp2
 all_goals go_ret2
 ·exact⟨by simp[piece, *],rfl⟩
 ·exact⟨by simp[piece, *],rfl⟩
theorem piece_at (b off k n:Nat) (hn:0<n):piece (some ⟨b,off,none⟩) k n = .slice (some ⟨b,off+k,none⟩) n n:=by
 have hn':n≠0:=by omega
 by_cases h0:k=0
 ·subst h0;simp[piece,Addr.add]
 ·simp[piece,Addr.add,h0,hn']
theorem piece_none (a:Option Addr) (k:Nat):piece a k 0 = .slice a 0 0:=by simp[piece]
end Go.Proofs.YtemlagfaaibenaaGreat.rows
