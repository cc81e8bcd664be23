/-
  Plain facts on the low two bits of a 64-bit number: a mask by 3 is the rest by 4; 4n with bit 1 laid in is 4n + 1; with 0 laid in, itself. The functions of chapter 1, one contract each: what the call returns, and that it leaves memory as it was. Lists of 64-bit numbers in memory: what may be read of
-/
import Derived.Laws.BitsLemmas
import Derived.Laws.BitsAllLaws
import Derived.Test.YtemlagfaaibenaaGreatRows
import Derived.WalkKit
import Derived.WalkSpells
import Derived.WalkLawsBesides
import Derived.OpenShut
import Derived.Below
import Derived.LoopTactic
import Derived.LoopN
import Derived.Deep.QuietTactic
import Derived.BigQuiet
import Derived.Laws.AppendOwnNone
namespace Go.Proofs.YtemlagfaaibenaaGreat
theorem and3 (n:Int):bits .and .i64 n 3=n % 4:=by
 have h3:(BitVec.ofInt 64 3).toNat=2 ^ 2-1:=by decide
 have key:(BitVec.ofInt 64 n &&& BitVec.ofInt 64 3).toNat=(n % ((2 ^ 64:Nat):Int)).toNat % 2 ^ 2:=by
  rw[BitVec.toNat_and,BitVec.toNat_ofInt,h3,Nat.and_two_pow_sub_one_eq_mod]
 show IntKind.i64.wrap ((BitVec.ofInt 64 n &&& BitVec.ofInt 64 3).toNat:Nat)=n % 4
 rw[key,IntKind.wrap_i64]
 omega
theorem or0 (x:Int) (h0 : -1000000≤x) (h1:x≤1000000):bits .or .i64 x 0=x:=by
 have h3:(BitVec.ofInt 64 0).toNat=0:=by decide
 have key:(BitVec.ofInt 64 x ||| BitVec.ofInt 64 0).toNat=(x % ((2 ^ 64:Nat):Int)).toNat:=by
  rw[BitVec.toNat_or,BitVec.toNat_ofInt,h3,Nat.or_zero]
 show IntKind.i64.wrap ((BitVec.ofInt 64 x ||| BitVec.ofInt 64 0).toNat:Nat)=x
 rw[key,IntKind.wrap_i64]
 omega
theorem tdiv4 (n:Int) (h:n % 4=1):(n-1).tdiv 4=n / 4:=by
 rw[Int.tdiv_eq_ediv_of_dvd (by omega)]
 omega
end Go.Proofs.YtemlagfaaibenaaGreat
namespace Go.Proofs.YtemlagfaaibenaaGreat.words
open Go.RowKit
theorem l1In_any (x lo hi:Int) (w:World) :
    Calls Tryz.prog 81 #[.int .i64 x,.int .i64 lo,.int .i64 hi] w fun e w'=>e = .returned (.bool (decide (lo≤x)&&decide (x≤hi)))∧w'=w:=by
 by_cases h1:lo≤x
 ·by_cases h2:x≤hi
  all_goals
   go_enter Tryz.func81,Tryz.ntmps81
   go_wp2
   all_goals go_ret
   all_goals exact⟨by simp[h1,h2],rfl⟩
 ·go_enter Tryz.func81,Tryz.ntmps81
  go_wp2
  all_goals go_ret
  all_goals exact⟨by simp;omega,rfl⟩
theorem ofAddr_yes (a:Int) (h1:0≤a) (h2:a≤999) (w:World) :
    Calls Tryz.prog 73 #[.int .i64 a] w fun e w'=>e = .returned (.int .i64 ((a+1)*4))∧w'=w:=by
 have ho:=or0 ((a+1)*4) (by omega) (by omega)
 go_enter Tryz.func73,Tryz.ntmps73
 go_wp2
 go_ret
 exact⟨rfl,rfl⟩
theorem ofAddr_no (a:Int) (h:a<0∨999<a) (w:World) :
    Calls Tryz.prog 73 #[.int .i64 a] w fun e w'=>e = .returned (.int .i64 2)∧w'=w:=by
 rcases h with h|h
 ·have h1:¬0≤a:=by omega
  go_enter Tryz.func73,Tryz.ntmps73
  go_wp2
  go_ret
  exact⟨rfl,rfl⟩
 ·have h':0≤a:=by omega
  have h2:¬a≤999:=by omega
  go_enter Tryz.func73,Tryz.ntmps73
  go_wp2
  go_ret
  exact⟨rfl,rfl⟩
def isI (n:Int):Bool:=n % 4==1&&decide (-399999≤n)&&decide (n≤400001)
def isA (n:Int):Bool:=n % 4==0&&decide (4≤n)&&decide (n≤4000)
theorem isI_true {n:Int} (h:isI n=true):n % 4=1 ∧ -399999≤n∧n≤400001:=by
 simp[isI]at h;omega
theorem isI_false {n:Int} (h:isI n=false):n % 4≠1∨n < -399999∨400001<n:=by
 simp[isI]at h;omega
theorem isA_true {n:Int} (h:isA n=true):n % 4=0∧4≤n∧n≤4000:=by
 simp[isA]at h;omega
theorem isA_false {n:Int} (h:isA n=false):n % 4≠0∨n<4∨4000<n:=by
 simp[isA]at h;omega
theorem isInt_any (n:Int) (w:World) (b1 : -9223372036854775808≤n) (b2:n≤9223372036854775807) :
    Calls Tryz.prog 157 #[.int .i64 n] w fun e w'=>e = .returned (.bool (isI n))∧w'=w:=by
 have hm:=and3 n
 have q1 : -2305843009213693952≤n / 4:=by omega
 have q2:n / 4≤2305843009213693952:=by omega
 cases e3:(n % 4==1)
 ·have hi:isI n=false:=by simp[isI,e3]
  rw[hi]
  clear hi
  go_enter Tryz.func157,Tryz.ntmps157
  go_wp2
  go_ret
  exact⟨rfl,rfl⟩
 ·have h3:n % 4=1:=by simpa using e3
  cases hi:isI n
  ·rcases isI_false hi with h|h|h
   ·exact absurd h3 h
   ·have r1:¬ -100000≤n / 4:=by omega
    clear hi h3
    go_enter Tryz.func157,Tryz.ntmps157
    go_wp2
    go_ret
    exact⟨rfl,rfl⟩
   ·have r1 : -100000≤n / 4:=by omega
    have r2:¬n / 4≤100000:=by omega
    clear hi h3
    go_enter Tryz.func157,Tryz.ntmps157
    go_wp2
    go_ret
    exact⟨rfl,rfl⟩
  ·obtain⟨_,h1,h2⟩:=isI_true hi
   have r1 : -100000≤n / 4:=by omega
   have r2:n / 4≤100000:=by omega
   clear h3 hi
   go_enter Tryz.func157,Tryz.ntmps157
   go_wp2
   go_ret
   exact⟨rfl,rfl⟩
theorem isAddr_any (n:Int) (w:World) (b1 : -9223372036854775808≤n) (b2:n≤9223372036854775807) :
    Calls Tryz.prog 137 #[.int .i64 n] w fun e w'=>e = .returned (.bool (isA n))∧w'=w:=by
 have hm:=and3 n
 have q1 : -2305843009213693952≤n / 4:=by omega
 have q2:n / 4≤2305843009213693952:=by omega
 cases e3:(n % 4==0)
 ·have hi:isA n=false:=by simp[isA,e3]
  rw[hi]
  clear hi
  go_enter Tryz.func137,Tryz.ntmps137
  go_wp2
  go_ret
  exact⟨rfl,rfl⟩
 ·have h3:n % 4=0:=by simpa using e3
  cases hi:isA n
  ·rcases isA_false hi with h|h|h
   ·exact absurd h3 h
   ·have r1:¬0≤n / 4-1:=by omega
    clear hi h3
    go_enter Tryz.func137,Tryz.ntmps137
    go_wp2
    go_ret
    exact⟨rfl,rfl⟩
   ·have r1:0≤n / 4-1:=by omega
    have r2:¬n / 4-1≤999:=by omega
    clear hi h3
    go_enter Tryz.func137,Tryz.ntmps137
    go_wp2
    go_ret
    exact⟨rfl,rfl⟩
  ·obtain⟨_,h1,h2⟩:=isA_true hi
   have r1:0≤n / 4-1:=by omega
   have r2:n / 4-1≤999:=by omega
   clear h3 hi
   go_enter Tryz.func137,Tryz.ntmps137
   go_wp2
   go_ret
   exact⟨rfl,rfl⟩
theorem addrOf_yes (n:Int) (w:World) (b1 : -9223372036854775808≤n) (b2:n≤9223372036854775807) (hi:isA n=true) :
    Calls Tryz.prog 122 #[.int .i64 n] w fun e w'=>e = .returned (.tuple #[.int .i64 (n / 4-1),.bool true])∧w'=w:=by
 have q1 : -2305843009213693952≤n / 4:=by omega
 have q2:n / 4≤2305843009213693952:=by omega
 go_enter Tryz.func122,Tryz.ntmps122
 go_wp2_with (first|(go_at_call 137;refine (isAddr_any _ _ b1 b2).mono ?_;rintro e w' ⟨rfl,rfl⟩)|go_in)
 go_ret2
 exact⟨rfl,rfl⟩
theorem addrOf_no (n:Int) (w:World) (b1 : -9223372036854775808≤n) (b2:n≤9223372036854775807) (hi:isA n=false) :
    Calls Tryz.prog 122 #[.int .i64 n] w fun e w'=>e = .returned (.tuple #[.int .i64 0,.bool false])∧w'=w:=by
 go_enter Tryz.func122,Tryz.ntmps122
 go_wp2_with (first|(go_at_call 137;refine (isAddr_any _ _ b1 b2).mono ?_;rintro e w' ⟨rfl,rfl⟩)|go_in)
 go_ret2
 exact⟨rfl,rfl⟩
theorem sIntOf_yes (n:Int) (w:World) (hi:isI n=true) :
    Calls Tryz.prog 134 #[.int .i64 n] w fun e w'=>e = .returned (.tuple #[.int .i64 (n / 4),.bool true])∧w'=w:=by
 obtain⟨h3,h1,h2⟩:=isI_true hi
 have hm:=and3 n
 have ht:=tdiv4 n h3
 have e3:(n % 4 != 1)=false:=by simp[h3]
 clear h3 hi
 go_enter Tryz.func134,Tryz.ntmps134
 go_wp2
 go_ret2
 exact⟨rfl,rfl⟩
theorem sIntOf_no (n:Int) (w:World) (hi:isI n=false) :
    Calls Tryz.prog 134 #[.int .i64 n] w fun e w'=>e = .returned (.tuple #[.int .i64 0,.bool false])∧w'=w:=by
 have hm:=and3 n
 by_cases h1 : -399999≤n
 ·by_cases h2:n≤400001
  ·have h3:n % 4≠1:=by
     rcases isI_false hi with h|h|h
     ·exact h
     ·omega
     ·omega
   have e3:(n % 4 != 1)=true:=by simp[h3]
   clear h3 hi
   go_enter Tryz.func134,Tryz.ntmps134
   go_wp2
   go_ret2
   exact⟨rfl,rfl⟩
  ·clear hi
   go_enter Tryz.func134,Tryz.ntmps134
   go_wp2
   go_ret2
   exact⟨rfl,rfl⟩
 ·clear hi
  go_enter Tryz.func134,Tryz.ntmps134
  go_wp2
  go_ret2
  exact⟨rfl,rfl⟩
theorem sAddrOf_yes (n:Int) (w:World) (hi:isA n=true) :
    Calls Tryz.prog 44 #[.int .i64 n] w fun e w'=>e = .returned (.tuple #[.int .i64 (n / 4-1),.bool true])∧w'=w:=by
 obtain⟨h3,h1,h2⟩:=isA_true hi
 have e3:(n % 4 != 0)=false:=by simp[h3]
 clear h3 hi
 go_enter Tryz.func44,Tryz.ntmps44
 go_wp2
 go_ret2
 exact⟨rfl,rfl⟩
theorem sAddrOf_no (n:Int) (w:World) (hi:isA n=false) :
    Calls Tryz.prog 44 #[.int .i64 n] w fun e w'=>e = .returned (.tuple #[.int .i64 0,.bool false])∧w'=w:=by
 by_cases h1:4≤n
 ·by_cases h2:n≤4000
  ·have h3:n % 4≠0:=by
     rcases isA_false hi with h|h|h
     ·exact h
     ·omega
     ·omega
   have e3:(n % 4 != 0)=true:=by simp[h3]
   clear h3 hi
   go_enter Tryz.func44,Tryz.ntmps44
   go_wp2
   go_ret2
   exact⟨rfl,rfl⟩
  ·clear hi
   go_enter Tryz.func44,Tryz.ntmps44
   go_wp2
   go_ret2
   exact⟨rfl,rfl⟩
 ·clear hi
  go_enter Tryz.func44,Tryz.ntmps44
  go_wp2
  go_ret2
  exact⟨rfl,rfl⟩
end Go.Proofs.YtemlagfaaibenaaGreat.words
namespace Go.Proofs.YtemlagfaaibenaaGreat.rows
open Go.RowKit
def I64 (i:Int):Prop:= -9223372036854775808≤i∧i≤9223372036854775807
theorem i64_of_wf {i:Int} (h:(Lit.int .i64 i).wf=true):I64 i:=by
 simpa [I64,Lit.wf,IntKind.min,IntKind.max,IntKind.signed,IntKind.bits] using h
abbrev cellsOf (xs:List Int):List Value:=xs.map (Value.int .i64)
def IntsAt (w:World) (v:Value) (xs:List Int):Prop:=
 ∃a cap,v = .slice a xs.length cap∧xs.length≤cap∧cap≤maxLen∧(a=none→cap=0) ∧
  (0<xs.length→∃b off,a=some ⟨b,off,none⟩∧b<w.heap.size∧∀i,i<xs.length→w.cell? ⟨b,off+i,none⟩=some (.int .i64 (xs.getD i 0)))
theorem intsAt_below {w w':World} {v:Value} {xs:List Int} (h:IntsAt w v xs) (hb:Below w.heap.size w w'):IntsAt w' v xs:=by
 obtain⟨a,cap,rfl,h1,h2,h4,h3⟩:=h
 refine⟨a,cap,rfl,h1,h2,h4,fun hp => ?_⟩
 obtain⟨b,off,rfl,hlt,hc⟩:=h3 hp
 exact⟨b,off,rfl,Nat.lt_of_lt_of_le hlt hb.size,fun i hi=>(hb.cell (p:=⟨b,off+i,none⟩) hlt).trans (hc i hi)⟩
def Own (w:World) (base:Nat) (v:Value) (xs:List Int):Prop:=w.ownsRow base 2 1 v xs.length (cellsOf xs)
theorem own_ints {w:World} {base:Nat} {v:Value} {xs:List Int} (h:Own w base v xs):IntsAt w v xs:=by
 have h':=h
 obtain⟨_,⟨rfl,hn⟩|⟨g,cap,cur,rfl,hg,hh,hle,hm,hs,ht⟩⟩:=h
 ·have:xs=[]:=by simpa using hn
  subst this
  exact⟨none,0,rfl,by simp,by decide,fun _=>rfl,fun hp=>absurd hp (by simp)⟩
 ·refine⟨_,cap,rfl,hle,hm,fun h=>(by cases h),fun hp=>⟨g,0,rfl,lt_of_block hh,fun i hi => ?_⟩⟩
  have:=World.ownsRow.cellAt h' i (by omega)
  rw[Nat.zero_add,this]
  simp[List.getD_eq_getElem?_getD,List.getElem?_eq_getElem hi]
theorem own_base {w:World} {base base':Nat} {v:Value} {xs:List Int} (h:Own w base v xs) (hb:base'≤base):Own w base' v xs:=by
 obtain⟨h0,⟨h1,h2⟩|⟨g,cap,cur,h1,hg,hh,hle,hm,hs,ht⟩⟩:=h
 ·exact⟨h0,.inl ⟨h1,h2⟩⟩
 ·exact⟨h0,.inr ⟨g,cap,cur,h1,Nat.le_trans hb hg,hh,hle,hm,hs,ht⟩⟩
theorem own_below {w w':World} {base:Nat} {v:Value} {xs:List Int} (h:Own w base v xs) (hb:Below w.heap.size w w'):Own w' base v xs:=by
 obtain⟨h0,⟨h1,h2⟩|⟨g,cap,cur,h1,hg,hh,hle,hm,hs,ht⟩⟩:=h
 ·exact⟨h0,.inl ⟨h1,h2⟩⟩
 ·exact⟨h0,.inr ⟨g,cap,cur,h1,hg,(hb.block g (lt_of_block hh)).trans hh,hle,hm,hs,ht⟩⟩
def Full (w:World) (b:Nat) (xs:List Int):Prop:=w.heap[b]? = some (.cells (cellsOf xs).toArray 2 (0,0))
theorem full_own {w:World} {b base:Nat} {xs:List Int} (h:Full w b xs) (hb:base≤b) (hm:xs.length≤maxLen):Own w base (.slice (some ⟨b,0,none⟩) xs.length xs.length) xs:=
 ⟨by simp,.inr ⟨b,xs.length,_,rfl,hb,h,Nat.le_refl _,hm,by simp,List.take_of_length_le (by simp)⟩⟩
theorem own_full {w:World} {base g n:Nat} {cs:List Value} {xs:List Int} (h:w.ownsRow base 2 1 (.slice (some ⟨g,0,none⟩) n n) n cs) (hcs:cs=cellsOf xs):Full w g xs:=by
 subst hcs
 obtain⟨_,⟨h1,_⟩|⟨g',cap,cur,h1,hg,hh,hle,hm,hs,ht⟩⟩:=h
 ·cases h1
 ·injection h1 with e1 e2 e3
  injection e1 with e1
  injection e1 with e1
  subst e1 e3
  unfold Full
  rw[hh]
  rw[List.take_of_length_le (by simpa using Nat.le_of_eq hs)]at ht
  rw[←ht]
theorem full_cell {w:World} {b:Nat} {xs:List Int} (h:Full w b xs) {i:Nat} (hi:i<xs.length):w.cell? ⟨b,i,none⟩=some (.int .i64 (xs.getD i 0)):=by
 unfold Full at h
 simp[World.cell?, h,List.getD_eq_getElem?_getD,List.getElem?_eq_getElem hi]
theorem full_frozen {w:World} {b:Nat} {xs:List Int} (h:Full w b xs) (i:Nat):w.frozen? ⟨b,i,none⟩=false:=by
 unfold Full at h
 simp[World.frozen?, h]
theorem block_setCell {w:World} {b:Nat} {c:Array Value} {t:TypeId} (h:w.heap[b]? = some (.cells c t (0,0))) (k:Nat) (u:Value) :
    (w.setCell ⟨b,k,none⟩ u).heap[b]? = some (.cells (c.setIfInBounds k u) t (0,0)):=by
 have hlt:=lt_of_block h
 have h':w.heap[b] = .cells c t (0,0):=by simpa [Array.getElem?_eq_getElem hlt] using h
 show (w.heap.modify b _)[b]? = _
 rw[Array.getElem?_eq_getElem (by simpa using hlt),Array.getElem_modify_self,h']
 rfl
theorem full_set {w:World} {b:Nat} {xs:List Int} (h:Full w b xs) (i:Nat) (x:Int):Full (w.setCell ⟨b,i,none⟩ (.int .i64 x)) b (xs.set i x):=by
 unfold Full
 rw[block_setCell h i]
 simp[cellsOf,List.map_set]
theorem info:(Tryz.prog.info? 2).map (fun i=>(i.zero,i.size,i.bytes))=some (some (.int .i64 0),1,8):=by kernel_rfl
theorem take_succ_eq {xs ys:List Int} {k:Nat} (h:xs.take k=ys.take k) (hx:k<xs.length) (hy:k<ys.length) (e:xs.getD k 0=ys.getD k 0):xs.take (k+1)=ys.take (k+1):=by
 rw[List.take_succ_eq_append_getElem hx,List.take_succ_eq_append_getElem hy,h]
 simp[List.getD_eq_getElem?_getD,List.getElem?_eq_getElem hx,List.getElem?_eq_getElem hy]at e
 rw[e]
theorem ints_news {w:World} {ad:Addr} {n cap:Nat} {xs:List Int} (h:IntsAt w (.slice (some ad) n cap) xs):∀j u,(cellsOf xs)[j]? = some u→w.cell? (ad.add j)=some u:=by
 obtain⟨a,cap',e,h1,h2,h4,h3⟩:=h
 intro j u hj
 have hlt:j<xs.length:=by
  have:=List.getElem?_eq_some_iff.1 hj
  simpa using this.1
 obtain⟨b,off,rfl,_,hc⟩:=h3 (by omega)
 injection e with e1 e2 e3
 injection e1 with e1
 subst e1
 have:=hc j hlt
 simp[List.getD_eq_getElem?_getD,List.getElem?_eq_getElem hlt]at this
 simp[cellsOf,List.getElem?_eq_getElem hlt]at hj
 rw[←hj]
 by_cases h0:j=0
 ·subst h0;simpa [Addr.add] using this
 ·simpa [Addr.add,h0] using this
def rowOk (xs:List Int):Bool:=decide (xs.length≤1000)
theorem rowOk_true {xs:List Int} (h:rowOk xs=true):xs.length≤1000:=by simpa [rowOk] using h
def atOk (xs:List Int) (i:Int):Bool:=decide (0≤i∧i<xs.length)
theorem atOk_true {xs:List Int} {i:Int} (h:atOk xs i=true):0≤i∧i<xs.length:=by simpa [atOk] using h
def okAt (xs:List Int) (i:Int):Bool:=rowOk xs&&atOk xs i
def readAt (xs:List Int) (i:Int):Int:=if okAt xs i=true then xs.getD i.toNat 0 else 0
theorem copied_own {w w1:World} {v':Value} {xs:List Int} (hown:w1.ownsRow w.heap.size 2 1 v' (0+xs.length) ([]++cellsOf xs)) (hgrow:(w.alloc (.cells #[] 2)).grownBy w1 (some w.heap.size))
    (hnn:v' = .slice none 0 0↔Value.slice (some ⟨w.heap.size,0,none⟩) 0 0 = .slice none 0 0∧xs.length=0) :
    ∃g cap,v' = .slice (some ⟨g,0,none⟩) xs.length cap∧w.heap.size≤g∧w1.ownsRow w.heap.size 2 1 (.slice (some ⟨g,0,none⟩) xs.length cap) xs.length (cellsOf xs)∧Below w.heap.size w w1:=by
 rw[Nat.zero_add,List.nil_append]at hown
 have h':=hown
 obtain⟨_,⟨rfl,_⟩|⟨g,cap,cur,rfl,hg,_⟩⟩:=hown
 ·exact absurd (hnn.1 rfl).1 (by simp)
 ·exact⟨g,cap,rfl,hg,h',((Below.refl _ _).alloc (Nat.le_refl _) _).grown hgrow (by simp) (fun k e=>by cases e;exact Nat.le_refl _)⟩
theorem own_row {w:World} {base n:Nat} {v:Value} {xs:List Int} (h:w.ownsRow base 2 1 v n (cellsOf xs)) (hn:xs.length=n):Own w base v xs:=by
 subst hn;exact h
theorem wpList_copied {w:World} {ops:Array Oper} {rest:List Oper} {o:Oper} {act:Act} {Q:Exit→Act→World→Prop} {a:Option Addr} {cap:Nat} {xs:List Int}
    (h:IntsAt w (.slice a xs.length cap) xs) (hl:xs.length≤1048576) (hgd:o.guard=none) (s x:Operand) (ho:o.op = .call { callee:=.builtin .append,args:=#[s,x],argTypes:=#[22,22] })
    (hs:act.eval s = .slice (some ⟨w.heap.size,0,none⟩) 0 0) (hx:act.eval x = .slice a xs.length cap)
    (hK:∀g cap' w1,w.heap.size≤g→w1.ownsRow w.heap.size 2 1 (.slice (some ⟨g,0,none⟩) xs.length cap') xs.length (cellsOf xs)→Below w.heap.size w w1→wpList Tryz.prog ops Q rest (act.put o.dst (.slice (some ⟨g,0,none⟩) xs.length cap')) w1) :
    wpList Tryz.prog ops Q (o :: rest) act (w.alloc (.cells #[] 2)):=by
 obtain⟨i0,hi,hz0,hz1,hz2⟩:=info_parts info
 have OWN:(w.alloc (.cells #[] 2)).ownsRow w.heap.size 2 1 (.slice (some ⟨w.heap.size,0,none⟩) 0 0) 0 []:=⟨rfl,.inr ⟨w.heap.size,0,#[],rfl,Nat.le_refl _,heap_alloc_new w _,Nat.le_refl _,by decide,rfl,rfl⟩⟩
 have h':=h
 obtain⟨a',cap',e,hlc,hcm,hnil,_⟩:=h
 injection e with e1 e2 e3
 subst e1 e3
 cases a with
 |none=>
  have hcap:=hnil rfl
  have e:xs=[]:=List.eq_nil_of_length_eq_zero (by omega)
  subst e hcap
  refine wpList_append_own_none hgd s x 22 ho _ 2 i0 1 Tryz.underlying22 hi _ 0 [] hs OWN hx ?_
  exact hK _ _ _ (Nat.le_refl _) OWN ((Below.refl _ _).alloc (Nat.le_refl _) _)
 |some ad=>
  refine wpList_append_own _ hgd s x 22 ho _ 2 i0 (.int .i64 0) 1 8 Tryz.underlying22 hi hz0 hz1 hz2 rfl (by decide) _ 0 [] hs OWN ad xs.length cap (cellsOf xs) hx (by simp) (ints_news (intsAt_below h' ((Below.refl _ _).alloc (Nat.le_refl _) _))) (ints_oneCell _ _) (by unfold maxLen;omega) (by omega) (by simp) ?_
  intro v' w1 hown hgrow hnn
  obtain⟨g,cap',rfl,hg,hO,hB⟩:=copied_own hown hgrow hnn
  exact hK g cap' w1 hg hO hB
def fill (xs:List Int) (f k:Nat) (x:Int):List Int:=xs.take f++List.replicate k x++xs.drop (f+k)
theorem fill_zero (xs:List Int) (f:Nat) (x:Int):fill xs f 0 x=xs:=by simp[fill]
theorem fill_length {xs:List Int} {f k:Nat} {x:Int} (h:f+k≤xs.length):(fill xs f k x).length=xs.length:=by simp[fill];omega
theorem fill_set {xs:List Int} {f k:Nat} {x:Int} (h:f+k<xs.length):(fill xs f k x).set (f+k) x=fill xs f (k+1) x:=by
 apply List.ext_getElem?
 intro i
 simp only[fill,List.getElem?_set,List.getElem?_append,List.length_take,List.getElem?_take,List.getElem?_replicate,List.length_append,List.length_replicate,List.getElem?_drop,List.length_drop]
 grind
theorem set_take {xs:List Int} {k:Nat} (h:k<xs.length):(xs.take k++List.replicate (xs.length-k) 0).set k (xs.getD k 0)=xs.take (k+1)++List.replicate (xs.length-(k+1)) 0:=by
 apply List.ext_getElem?
 intro i
 simp only[List.getElem?_set,List.getElem?_append,List.length_take,List.getElem?_take,List.getElem?_replicate,List.length_append,List.length_replicate]
 rcases Nat.lt_trichotomy i k with hi|hi|hi
 ·grind
 ·grind
 ·grind
set_option maxHeartbeats 1000000 in
theorem toInt64S_any {w:World} {v:Value} {xs:List Int} (h:IntsAt w v xs) (hl:xs.length≤1048576) :
    Calls Tryz.prog 22 #[v] w fun e w'=>e = .returned (.slice (some ⟨w.heap.size,0,none⟩) xs.length xs.length)∧Full w' w.heap.size xs∧Below w.heap.size w w':=by
 obtain⟨a,cap,rfl,hlc,hcm,_,hc⟩:=h
 obtain⟨i0,hi,hz0,hz1,hz2⟩:=info_parts info
 have HC:Hid (0<xs.length→∃b off,a=some ⟨b,off,none⟩∧b<w.heap.size∧∀i,i<xs.length→w.cell? ⟨b,off+i,none⟩=some (.int .i64 (xs.getD i 0))):=hc
 clear hc
 go_enter Tryz.func22,Tryz.ntmps22
 go_wp2_with (at_make;refine wpList_make_full _ rfl _ _ 22 rfl w.heap.size 2 i0 (.int .i64 0) 1 Tryz.underlying22 hi hz0 hz1 _ _ _ _ xs.length rfl rfl rfl rfl (by rw[hz2];omega) (by unfold maxLen;omega) (Nat.le_refl _) ?_;intro w1 hown hgrow)
 have F:Full w1 w.heap.size (xs.take 0++List.replicate (xs.length-0) 0):=own_full hown (by simp[cellsOf,toList_madeCells_one,Value.cells])
 have B:Below w.heap.size w w1:=(Below.refl _ _).grown hgrow (Nat.le_refl _) (fun k e=>by cases e)
 clear hown hgrow hi hz0 hz1 hz2
 go_loopw [4] (fun i wr=>∃k:Nat,k≤xs.length∧i = .int .i64 k∧Full wr w.heap.size (xs.take k++List.replicate (xs.length-k) 0)∧Below w.heap.size w wr) (fun i _=>xs.length-(intOf i).toNat)
 case atStart=>exact⟨0,Nat.zero_le _,rfl,F,B⟩
 case round=>
  obtain⟨k,hk,rfl,Fr,Br⟩:=hrel
  by_cases hlt:k<xs.length
  ·obtain⟨b,off,rfl,hb,hc⟩:=HC.out (by omega)
   have c0:wr.cell? ⟨b,off+k,none⟩=some (.int .i64 (xs.getD k 0)):=(Br.cell (p:=⟨b,off+k,none⟩) hb).trans (hc k hlt)
   have c1:wr.cell? ⟨w.heap.size,k,none⟩=some (.int .i64 ((xs.take k++List.replicate (xs.length-k) 0).getD k 0)):=full_cell Fr (by simp;omega)
   have c2:=full_frozen Fr k
   have F2:=full_set Fr k (xs.getD k 0)
   rw[set_take hlt]at F2
   have B2:Below w.heap.size w (wr.setCell ⟨w.heap.size,k,none⟩ (.int .i64 (xs.getD k 0))):=Br.setCell (Nat.le_refl _) _
   have HF:Hid _:=F2
   have HB:Hid _:=B2
   clear F2 B2 Fr Br hc F B
   generalize xs.getD k 0=x at *
   generalize (xs.take k++List.replicate (xs.length-k) 0).getD k 0=y at *
   go_wp2
   exact⟨⟨k+1,by omega,by go_num,HF,HB⟩,by simp[intOf];omega⟩
  ·have e:k=xs.length:=by omega
   subst e
   have F0:Full wr w.heap.size xs:=by simpa using Fr
   have HF:Hid (Full wr w.heap.size xs):=F0
   have HB:Hid (Below w.heap.size w wr):=Br
   clear Fr Br F B F0
   go_wp2
   go_ret
   exact⟨rfl,HF,HB⟩
set_option maxHeartbeats 1000000 in
theorem eqInt64S_any {w:World} {v1 v2:Value} {xs ys:List Int} (h1:IntsAt w v1 xs) (h2:IntsAt w v2 ys) (hl:xs.length≤1048576) :
    Calls Tryz.prog 24 #[v1,v2] w fun e w'=>e = .returned (.bool (decide (xs=ys)))∧∃n,w'=w.drewN n:=by
 obtain⟨a,cap,rfl,hlc,hcm,_,hc⟩:=h1
 obtain⟨a',cap',rfl,hlc',hcm',_,hc'⟩:=h2
 by_cases hn:xs.length=ys.length
 ·have HC:Hid (0<xs.length→∃b off,a=some ⟨b,off,none⟩∧b<w.heap.size∧∀i,i<xs.length→w.cell? ⟨b,off+i,none⟩=some (.int .i64 (xs.getD i 0))):=hc
  have HC':Hid (0<ys.length→∃b off,a'=some ⟨b,off,none⟩∧b<w.heap.size∧∀i,i<ys.length→w.cell? ⟨b,off+i,none⟩=some (.int .i64 (ys.getD i 0))):=hc'
  clear hc hc'
  have hni:(xs.length:Int)=(ys.length:Int):=by omega
  go_enter Tryz.func24,Tryz.ntmps24
  go_wp2_with fail
  go_loopw [5] (fun i wr=>∃k n:Nat,k≤xs.length∧i = .int .i64 k∧xs.take k=ys.take k∧wr=w.drewN n) (fun i _=>xs.length-(intOf i).toNat)
  case atStart=>exact⟨0,0,Nat.zero_le _,rfl,by simp,rfl⟩
  case round=>
   obtain⟨k,n,hk,rfl,ht,rfl⟩:=hrel
   by_cases hlt:k<xs.length
   ·obtain⟨b,off,rfl,hb,hc⟩:=HC.out (by omega)
    obtain⟨b',off',rfl,hb',hc'⟩:=HC'.out (by omega)
    have c0:=hc k hlt
    have c1:=hc' k (by omega)
    have HT:Hid (xs.getD k 0=ys.getD k 0→xs.take (k+1)=ys.take (k+1)):=fun e=>take_succ_eq ht hlt (by omega) e
    have HN:Hid (¬xs.getD k 0=ys.getD k 0→decide (xs=ys)=false):=fun e=>by simp only[decide_eq_false_iff_not];intro e';subst e';exact e rfl
    clear hc hc' ht HC HC'
    have hlt':k<ys.length:=by omega
    generalize xs.getD k 0=x at *
    generalize ys.getD k 0=y at *
    by_cases hxy:x=y
    ·go_wp2
     go_quiet (fail)
     go_wp2
     exact⟨⟨k+1,n+nq,by omega,by go_num,HT hxy,rfl⟩,by simp[intOf];omega⟩
    ·go_wp2
     go_quiet (fail)
     go_wp2
     go_ret
     exact⟨by rw[HN hxy];rfl,n+nq,by rw[World.drewN_drewN]⟩
   ·have e:xs=ys:=by
      have e1:xs.take k=xs:=List.take_of_length_le (by omega)
      have e2:ys.take k=ys:=List.take_of_length_le (by omega)
      rw[←e1,ht,e2]
    have HE:Hid (decide (xs=ys)=true):=by show _=true;simpa using e
    clear ht e HC HC'
    go_wp2
    go_ret
    exact⟨by rw[HE.out];rfl,_,rfl⟩
 ·have hni:¬(xs.length:Int)=(ys.length:Int):=by omega
  clear hc hc'
  go_enter Tryz.func24,Tryz.ntmps24
  go_wp2
  go_ret
  exact⟨by rw[decide_eq_false (fun e=>hn (by rw[e]))];rfl,0,rfl⟩
def marks (k:Int) (n:Nat):List Int:=(List.range n).map (fun i:Nat=>k+(i:Int))
theorem marks_length (k:Int) (n:Nat):(marks k n).length=n:=by simp[marks]
theorem marks_getD (k:Int) {n i:Nat} (h:i<n):(marks k n).getD i 0=k+i:=by simp[marks,List.getD_eq_getElem?_getD,h]
theorem marks_set {xs:List Int} {k:Nat} (k0:Int) (h:k<xs.length):(marks k0 k++xs.drop k).set k (k0+(k:Int))=marks k0 (k+1)++xs.drop (k+1):=by
 apply List.ext_getElem?
 intro i
 simp only[marks,List.getElem?_set,List.getElem?_append,List.length_map,List.length_range,List.getElem?_map,List.getElem?_drop,List.length_append,List.length_drop]
 grind
set_option maxHeartbeats 1000000 in
theorem markInt64S_any {w:World} {base:Nat} {v:Value} {xs:List Int} (h:Own w base v xs) (hl:xs.length≤1048576) (k0:Int) (hk0:0≤k0) (hk1:k0≤1048577) :
    Calls Tryz.prog 36 #[v,.int .i64 k0] w fun e w'=>e = .returned (.int .i64 (k0+xs.length))∧Own w' base v (marks k0 xs.length)∧w.grownBy w' v.ownBlock:=by
 have h':=h
 obtain⟨_,⟨rfl,hn⟩|⟨g,cap,cur,rfl,hg,hh,hle,hm,hs,ht⟩⟩:=h
 ·have e:xs=[]:=by simpa using hn
  subst e
  have HO:Hid (Own w base (.slice none 0 0) (marks k0 0)):=h'
  clear h' hn
  go_enter Tryz.func36,Tryz.ntmps36
  go_wp2
  refine wp_loop_rounds 1 ?_
  rw[rounds_succ]
  go_wp2
  go_ret
  exact⟨by simp,HO,World.grownBy.refl _ _⟩
 ·have HO:Hid (w.ownsRow base 2 1 (.slice (some ⟨g,0,none⟩) xs.length cap) xs.length (cellsOf (marks k0 0++xs.drop 0))):=h'
  clear h' hg hh hs ht cur
  go_enter Tryz.func36,Tryz.ntmps36
  go_wp2_with fail
  go_loopw [1,5] (fun q i wr=>∃k:Nat,k≤xs.length∧i = .int .i64 k∧q = .int .i64 (k0+(k:Int))∧wr.ownsRow base 2 1 (.slice (some ⟨g,0,none⟩) xs.length cap) xs.length (cellsOf (marks k0 k++xs.drop k))∧w.grownBy wr (some g)) (fun _ i _=>xs.length-(intOf i).toNat)
  case atStart=>exact⟨0,Nat.zero_le _,rfl,by simp,HO,World.grownBy.refl _ _⟩
  case round=>
   obtain⟨k,hk,rfl,rfl,Or,Gr⟩:=hrel
   by_cases hlt:k<xs.length
   ·have c0:=World.ownsRow.cellAt Or k (by omega)
    have c1:=World.ownsRow.frozenAt Or k
    have S:=World.ownsRow.stored Or k (.int .i64 (k0+(k:Int)))
    have e1:(cellsOf (marks k0 k++xs.drop k)).set k (.int .i64 (k0+(k:Int)))=cellsOf (marks k0 (k+1)++xs.drop (k+1)):=by
     rw[←marks_set k0 hlt];simp[cellsOf,List.map_set]
    rw[e1]at S
    have HS:Hid _:=S.1
    have HG:Hid (w.grownBy (wr.setCell ⟨g,k,none⟩ (.int .i64 (k0+(k:Int)))) (some g)):=⟨S.2.os.trans Gr.os,S.2.tape.trans Gr.tape,S.2.output.trans Gr.output,Nat.le_trans Gr.size S.2.size,fun i hi hne=>(S.2.block i (Nat.lt_of_lt_of_le hi Gr.size) hne).trans (Gr.block i hi hne)⟩
    have c2:∃y,(cellsOf (marks k0 k++xs.drop k))[k]? = some y:=⟨_,List.getElem?_eq_getElem (by simp[marks];omega)⟩
    obtain⟨y,hy⟩:=c2
    rw[hy]at c0
    clear Or Gr S e1 HO hy
    go_wp2
    exact⟨⟨k+1,by omega,by go_num,by go_num,HS,HG⟩,by simp[intOf];omega⟩
   ·have e:k=xs.length:=by omega
    subst e
    have HS:Hid (Own wr base (.slice (some ⟨g,0,none⟩) xs.length cap) (marks k0 xs.length)):=by
     show World.ownsRow wr base _ 1 _ (marks k0 xs.length).length _
     rw[marks_length]
     simpa using Or
    have HG:Hid _:=Gr
    clear Or Gr HO
    go_wp2
    go_ret
    exact⟨rfl,HS,HG⟩
set_option maxHeartbeats 1000000 in
theorem heldInt64S_any {w:World} {v:Value} {n:Nat} (k0:Int) (h:IntsAt w v (marks k0 n)) (hl:n≤1048576) (hk0:0≤k0) (hk1:k0≤1048577) :
    Calls Tryz.prog 37 #[v,.int .i64 k0] w fun e w'=>e = .returned (.int .i64 (k0+n))∧w'=w:=by
 obtain⟨a,cap,rfl,hlc,hcm,_,hc⟩:=h
 rw[marks_length]at *
 have HC:Hid _:=hc
 clear hc
 go_enter Tryz.func37,Tryz.ntmps37
 go_wp2_with fail
 go_loop [1,5] (fun q i=>∃k:Nat,k≤n∧i = .int .i64 k∧q = .int .i64 (k0+(k:Int))) (fun _ i=>n-(intOf i).toNat)
 case atStart=>exact⟨0,Nat.zero_le _,rfl,by simp⟩
 case round=>
  obtain⟨k,hk,rfl,rfl⟩:=hrel
  by_cases hlt:k<n
  ·obtain⟨b,off,rfl,hb,hc⟩:=HC.out (by omega)
   have c0:=hc k hlt
   rw[marks_getD k0 hlt]at c0
   clear hc HC
   go_wp2
   go_round
   case rel=>exact⟨k+1,by omega,by go_num,by go_num⟩
   case measure=>simp[intOf];omega
  ·have e:k=n:=by omega
   subst e
   go_wp2
   go_ret
   exact⟨rfl,rfl⟩
end Go.Proofs.YtemlagfaaibenaaGreat.rows
