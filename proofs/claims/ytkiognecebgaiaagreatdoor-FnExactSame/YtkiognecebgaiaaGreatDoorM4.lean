/-
  Digits laid one ahead of the other. The texts that the laws mark with. Chapter 6: a number as a text, by the specification. 'append([]Ref{}, list...)': a list of its own, and nothing that there was is changed. A drawn region whose last operation comes behind all others, though not at once; and 'copy
-/
import Derived.Test.YtkiognecebgaiaaGreatDoorM1
import Derived.Lib.ItoaNum
import Derived.Test.YtkiognecebgaiaaGreatDoorM3
import Derived.Laws.BytesArg
import Derived.Laws.Concat
import Derived.Maps.AppendAt
import Derived.Deep.Upon
import Derived.Test.YtkiognecebgaiaaGreatDoorM2
import Derived.Laws.CopyOwn
namespace Go.Proofs.YtkiognecebgaiaaGreatDoor.gr
open Go.RowKit rows
set_option maxRecDepth 100000
set_option linter.unusedVariables false
def DigAt (n0 n:Int) (s:List UInt8):Prop:=s=[]∧n=n0∨s≠[]∧(n=0∧s=Lib.decDigits n0.natAbs∨n≠0∧Lib.decDigits n.natAbs++s=Lib.decDigits n0.natAbs)
theorem digAt_next {n0 n:Int} {s:List UInt8} (h:DigAt n0 n s) (hg:s=[]∨n≠0):DigAt n0 (n.tdiv 10) (UInt8.ofNat (48+n.natAbs % 10) :: s):=by
 have hd:(n.tdiv 10).natAbs=n.natAbs / 10:=Int.natAbs_tdiv n 10
 have hD:Lib.decDigits n.natAbs=if n.natAbs<10 then [UInt8.ofNat (48+n.natAbs)] else Lib.decDigits (n.natAbs / 10)++[UInt8.ofNat (48+n.natAbs % 10)]:=by
  rw[Lib.decDigits]
  by_cases c:n.natAbs<10
  ·rw[dif_pos c,if_pos c]
  ·rw[dif_neg c,if_neg c]
 have hT:Lib.decDigits n.natAbs++s=Lib.decDigits n0.natAbs:=by
  rcases h with ⟨rfl,rfl⟩|⟨h1,h2|h2⟩
  ·exact List.append_nil _
  ·rcases hg with hg|hg
   ·exact absurd hg h1
   ·exact absurd h2.1 hg
  ·exact h2.2
 refine .inr ⟨by simp,?_⟩
 by_cases c:n.natAbs<10
 ·refine .inl ⟨by omega,?_⟩
  rw[hD,if_pos c]at hT
  rw[←hT,Nat.mod_eq_of_lt c]
  rfl
 ·refine .inr ⟨by omega,?_⟩
  rw[hD,if_neg c]at hT
  rw[hd,←hT,List.append_assoc]
  rfl
theorem digAt_end {n0 n:Int} {s:List UInt8} (h:DigAt n0 n s) (hg:¬(s=[]∨n≠0)):s=Lib.decDigits n0.natAbs:=by
 rcases h with ⟨h1,_⟩|⟨_,h2|h2⟩
 ·exact absurd (.inl h1) hg
 ·exact h2.2
 ·exact absurd (.inr h2.1) hg
theorem itoa_abs (n:Int):Lib.itoa n=if n<0 then 45 :: Lib.decDigits n.natAbs else Lib.decDigits n.natAbs:=by
 unfold Lib.itoa
 by_cases h:n<0
 ·rw[if_pos h,if_pos h]
 ·rw[if_neg h,if_neg h]
  congr 1
  omega
end Go.Proofs.YtkiognecebgaiaaGreatDoor.gr
namespace Go.Proofs.YtkiognecebgaiaaGreatDoor.ents
open Go.RowKit rows
set_option maxRecDepth 100000
theorem conv_one (W:World) (x:Int):(convert 22 9 (.slice (some ⟨W.heap.size,0,none⟩) 1 1)).run Tryz.prog (W.alloc (.cells #[.int .u8 x] 5)) = .ok (.string (strOfNums [x])) (W.alloc (.cells #[.int .u8 x] 5)):=by
 refine run_convert_bytes_arg (P:=Tryz.prog) _ 22 5 Tryz.underlying22 Tryz.underlying5 W.heap.size 0 1 1 [x] rfl ?_ 9 Tryz.underlying9
 intro i hi
 obtain rfl:i=0:=by omega
 have:=cell_one_new W (.int .u8 x) 5 0 (.int .u8 x) rfl
 exact this
end Go.Proofs.YtkiognecebgaiaaGreatDoor.ents
namespace Go.Proofs.YtkiognecebgaiaaGreatDoor.gr
open Go.RowKit rows ents
set_option maxRecDepth 100000
set_option linter.unusedVariables false
set_option linter.unusedSimpArgs false
abbrev bs (s:List UInt8):ByteArray:=⟨s.toArray⟩
theorem toList_loop (s:ByteArray):∀n i r,s.size-i=n→r≠[]→ByteArray.toList.loop s i r≠[]
 |0,i,r,hn,hr=>by
  unfold ByteArray.toList.loop
  rw[if_neg (by omega)]
  simpa using hr
 |n+1,i,r,hn,hr=>by
  unfold ByteArray.toList.loop
  rw[if_pos (by omega)]
  exact toList_loop s n (i+1) _ (by omega) (by simp)
theorem toList_more {s:ByteArray} (h:0<s.size):s.toList.isEmpty=false:=by
 rw[List.isEmpty_eq_false_iff]
 unfold ByteArray.toList
 unfold ByteArray.toList.loop
 rw[if_pos h]
 exact toList_loop s _ _ _ rfl (by simp)
def strLen:Value→Nat
 | .string s=>s.size
 |_=>0
def numAbs:Value→Nat
 | .int _ n=>n.natAbs
 |_=>0
theorem strOf_digit (d:Nat):strOfNums [48+(d:Int)]=bs [UInt8.ofNat (48+d)]:=by
 simp only[strOfNums,List.map_cons,List.map_nil]
 rw[show (48+(d:Int)).toNat=48+d by omega]
theorem bs_append (x y:List UInt8):bs x++bs y=bs (x++y):=ByteArray.mk_append_mk x y
theorem bs_size (x:List UInt8):(bs x).size=x.length:=by simp[bs,ByteArray.size]
theorem pow_small {l a b:Nat} (ha:0<a) (h:a*10 ^ l≤b) (hb:b≤9223372036854775808):l≤18:=by
 rcases Nat.lt_or_ge 18 l with hl|hl
 ·have h1:10 ^ 19≤10 ^ l:=Nat.pow_le_pow_right (by decide) hl
  have h2:1*10 ^ l≤a*10 ^ l:=Nat.mul_le_mul_right _ ha
  have h3:(10:Nat) ^ 19=10000000000000000000:=by decide
  omega
 ·exact hl
set_option maxHeartbeats 4000000 in
theorem l1IntT_any (n0:Int) (hn:I64 n0) (w:World) :
    Calls Tryz.prog 91 #[.int .i64 n0] w fun e w'=>e = .returned (.string (bs (Lib.itoa n0)))∧Below w.heap.size w w':=by
 have HN:Hid _:=hn
 unfold I64 at hn
 go_enter Tryz.func91,Tryz.ntmps91
 go_wp2_with fail
 go_loopw [0,3] (fun p q wr=>∃(n:Int) (s:List UInt8) (sb:ByteArray),p = .int .i64 n∧q = .string sb∧sb=bs s∧DigAt n0 n s∧n.natAbs*10 ^ s.length≤n0.natAbs∧s.length≤19∧(n.natAbs≤n0.natAbs)∧Below w.heap.size w wr) (fun p q _=>2*numAbs p+(1-strLen q))
 case atStart=>exact⟨n0,[],_,rfl,rfl,rfl,.inl ⟨rfl,rfl⟩,by simp,by simp,Nat.le_refl _,Below.refl _ _⟩
 case round=>
  obtain⟨n,s,sb,rfl,rfl,hsb,hD,hp,hl,hab,hB⟩:=hrel
  have HB:Hid _:=hB
  have HD:Hid _:=hD
  have HSB:Hid _:=hsb
  have hz:sb.size=s.length:=by rw[hsb];exact bs_size s
  clear hB hD hsb
  by_cases hg:s=[]∨n≠0
  ·have hl18:s.length≤18:=by
     rcases hg with hg|hg
     ·rw[hg];exact Nat.zero_le _
     ·exact pow_small (by omega) hp (by omega)
   have hdv:(n.tdiv 10).natAbs=n.natAbs / 10:=Int.natAbs_tdiv n 10
   have hmd:(n.tmod 10).natAbs=n.natAbs % 10:=Int.natAbs_tmod n 10
   obtain⟨d,hd⟩:∃d,n.natAbs % 10=d:=⟨_,rfl⟩
   have hd9:d≤9:=by omega
   have CV:=conv_one wr (48+(d:Int))
   rw[strOf_digit]at CV
   have hds:(bs [UInt8.ofNat (48+d)]).size=1:=bs_size _
   have hap:bs [UInt8.ofNat (48+d)]++sb=bs (UInt8.ofNat (48+d) :: s):=by rw[HSB.out];exact bs_append _ _
   have HAP:Hid _:=hap
   have HNX:Hid (DigAt n0 (n.tdiv 10) (UInt8.ofNat (48+d) :: s)):=by rw[←hd];exact digAt_next HD.out hg
   have HP:Hid ((n.tdiv 10).natAbs*10 ^ (s.length+1)≤n0.natAbs):=by
    show _≤_
    rw[hdv,Nat.pow_succ]
    have h1:n.natAbs / 10*10≤n.natAbs:=Nat.div_mul_le_self _ _
    calc n.natAbs / 10*(10 ^ s.length*10)=n.natAbs / 10*10*10 ^ s.length:=by rw[Nat.mul_comm (10 ^ s.length) 10,Nat.mul_assoc]
     _≤n.natAbs*10 ^ s.length:=Nat.mul_le_mul_right _ h1
     _≤_:=hp
   have HB2:Hid _:=HB.out.alloc HB.out.size (.cells #[.int .u8 (48+(d:Int))] 5)
   have hss:¬(bs [UInt8.ofNat (48+d)]).size+sb.size > 9223372036854775807:=by omega
   have hsz:(bs [UInt8.ofNat (48+d)]++sb).size=1+sb.size:=by rw[ByteArray.size_append,hds]
   generalize bs [UInt8.ofNat (48+d)]=D at *
   by_cases hneg:n.tmod 10<0
   ·have hm:n.tmod 10 = -(d:Int):=by omega
    rw[hm]at hneg
    clear hap hp hmd hd
    rcases hg with hg|hg
    ·subst hg
     obtain rfl:sb=⟨#[]⟩:=HSB.out
     have hz0:(⟨#[]⟩:ByteArray).size=0:=rfl
     go_wp2
     exact⟨⟨n.tdiv 10,_,_,rfl,rfl,HAP.out,HNX.out,HP.out,by simp only[List.length_cons];omega,by omega,HB2⟩,by simp only[strLen,numAbs];omega⟩
    ·by_cases hs0:s=[]
     ·subst hs0
      obtain rfl:sb=⟨#[]⟩:=HSB.out
      have hz0:(⟨#[]⟩:ByteArray).size=0:=rfl
      go_wp2
      exact⟨⟨n.tdiv 10,_,_,rfl,rfl,HAP.out,HNX.out,HP.out,by simp only[List.length_cons];omega,by omega,HB2⟩,by simp only[strLen,numAbs];omega⟩
     ·have hpos:0<s.length:=List.length_pos_iff.2 hs0
      have hne:=toList_more (s:=sb) (by omega)
      go_wp2
      exact⟨⟨n.tdiv 10,_,_,rfl,rfl,HAP.out,HNX.out,HP.out,by simp only[List.length_cons];omega,by omega,HB2⟩,by simp only[strLen,numAbs];omega⟩
   ·have hm:n.tmod 10=(d:Int):=by omega
    rw[hm]at hneg
    clear hap hp hmd hd
    rcases hg with hg|hg
    ·subst hg
     obtain rfl:sb=⟨#[]⟩:=HSB.out
     have hz0:(⟨#[]⟩:ByteArray).size=0:=rfl
     go_wp2
     exact⟨⟨n.tdiv 10,_,_,rfl,rfl,HAP.out,HNX.out,HP.out,by simp only[List.length_cons];omega,by omega,HB2⟩,by simp only[strLen,numAbs];omega⟩
    ·by_cases hs0:s=[]
     ·subst hs0
      obtain rfl:sb=⟨#[]⟩:=HSB.out
      have hz0:(⟨#[]⟩:ByteArray).size=0:=rfl
      go_wp2
      exact⟨⟨n.tdiv 10,_,_,rfl,rfl,HAP.out,HNX.out,HP.out,by simp only[List.length_cons];omega,by omega,HB2⟩,by simp only[strLen,numAbs];omega⟩
     ·have hpos:0<s.length:=List.length_pos_iff.2 hs0
      have hne:=toList_more (s:=sb) (by omega)
      go_wp2
      exact⟨⟨n.tdiv 10,_,_,rfl,rfl,HAP.out,HNX.out,HP.out,by simp only[List.length_cons];omega,by omega,HB2⟩,by simp only[strLen,numAbs];omega⟩
  ·have hs0:s≠[]:=fun e=>hg (.inl e)
   have hn0:n=0:=Decidable.byContradiction fun e=>hg (.inr e)
   have hpos:0<s.length:=List.length_pos_iff.2 hs0
   have hne:=toList_more (s:=sb) (by omega)
   have hE:=digAt_end HD.out hg
   have hI:=itoa_abs n0
   rw[←hE]at hI
   have HI:Hid _:=hI
   have hss:¬(⟨#[45]⟩:ByteArray).size+sb.size > 9223372036854775807:=by
    have:(⟨#[45]⟩:ByteArray).size=1:=rfl
    omega
   subst hn0
   clear hE hI hp
   by_cases hneg:n0<0
   ·have hR:bs (Lib.itoa n0)=(⟨#[45]⟩:ByteArray)++sb:=by rw[HI.out,if_pos hneg,HSB.out];exact (bs_append [45] s).symm
    have HR:Hid _:=hR
    clear hR
    go_wp2
    go_ret
    exact⟨by rw[HR.out];rfl,HB⟩
   ·have hR:bs (Lib.itoa n0)=sb:=by rw[HI.out,if_neg hneg,HSB.out]
    have HR:Hid _:=hR
    clear hR
    go_wp2
    go_ret
    exact⟨by rw[HR.out];rfl,HB⟩
end Go.Proofs.YtkiognecebgaiaaGreatDoor.gr
namespace Go.Proofs.YtkiognecebgaiaaGreatDoor.gr
open Go.RowKit rows
set_option maxRecDepth 100000
theorem refs_news {w:World} {ad:Addr} {n cap:Nat} {es:List Rf} (h:RefsAt w (.slice (some ad) n cap) es):∀j u,(cellsR es)[j]? = some u→w.cell? (ad.add j)=some u:=by
 intro j u hj
 obtain⟨a',cap',e,_,_,_,hc⟩:=h
 injection e with e1 e2 e3
 subst e1
 have hlt:j<es.length*2:=by
  have:=(List.getElem?_eq_some_iff.1 hj).1
  rw[cellsR_length]at this
  exact this
 obtain⟨b,off,e1,_,hcc⟩:=hc (by omega)
 injection e1 with e1
 subst e1
 have hc:=hcc (j / 2) (by omega)
 have ca:=cellsR_at es (j / 2) (by omega)
 have hadd:(⟨b,off,none⟩:Addr).add j=⟨b,off+j,none⟩:=by unfold Addr.add;split<;>simp_all
 rw[hadd]
 rcases Nat.mod_two_eq_zero_or_one j with hm|hm
 ·have ej:j=j / 2*2:=by omega
  rw[←ej]at hc ca
  rw[ca.1]at hj
  rw[←hj]
  exact hc.1
 ·have ej:j=j / 2*2+1:=by omega
  have e2:off+j=off+j / 2*2+1:=by omega
  rw[←ej]at ca
  rw[ca.2]at hj
  rw[←hj,e2]
  exact hc.2
end Go.Proofs.YtkiognecebgaiaaGreatDoor.gr
namespace Go.Proofs.YtkiognecebgaiaaGreatDoor.region
open Go Go.RowKit
theorem wp_region_tail {P:Program} {id:Nat} {ops:Array Oper} {Q:Exit→Act→World→Prop} {a0:Act} {w:World} (hm:P.follows .mixedOrders=true) (D:Nat→Bool)
    (hg:∀o ∈ ops,o.guard=none) (hacyc:∀(k:Nat) (o:Oper),ops[k]? = some o→∀e ∈ o.after,e.on<k) (n m:Nat) (hpos:0<m) (hn:ops.size=n+m) (dst:Nat→Nat) (hinj:∀k,k<n→∀j,j<n→dst j=dst k→j=k)
    (F:Nat→Value→World→Prop) (hst:∀k t W W',Below W.heap.size W W'→F k t W→F k t W')
    (hall:∀l:Nat→Bool,(∀k o,ops[k]? = some o→(k<n→l k=true)→k≤n→∀e ∈ o.after,Region.binds .any e=true→l e.on=true)→∀j,j<n→l j=true)
    (hnext:∀j,j+1<m→∀o,ops[n+j+1]? = some o→∃e ∈ o.after,e.on=n+j∧Region.binds .any e=true)
    (step:∀k o u W,k<n→ops[k]? = some o→Below w.heap.size w W→(∀s,(∀k,k<n→dst k≠s)→u s=a0.tmps.getD s undef)→(∀j,j<n→(∃e ∈ o.after,e.on=j∧Region.binds .any e=true)→F j (u (dst j)) W)→o.wp P (ovr D a0 u) W (fun a' W'=>∃v,a'=ovr D a0 (upd u (dst k) v)∧Below W.heap.size W W'∧F k v W') Q)
    (M:Nat→(Nat→Value)→World→Prop) (m0:∀u W,Below w.heap.size w W→(∀j,j<n→F j (u (dst j)) W)→M 0 u W)
    (mid:∀j o u W,j<m→ops[n+j]? = some o→M j u W→o.wp P (ovr D a0 u) W (fun a' W'=>∃u',a'=ovr D a0 u'∧M (j+1) u' W') Q)
    (fin:∀u W,M m u W→Q .normal (ovr D a0 u) W) :
    (Code.region id ops true).wp P Q a0 w:=by
 refine wp_region_facts hm D hg hacyc (fun l u W=>((∀j,j<m→l.getD (n+j) false=false)∧Below w.heap.size w W∧(∀s,(∀k,k<n→dst k≠s)→u s=a0.tmps.getD s undef)∧(∀k o,k<n→l.getD k false=true→ops[k]? = some o→∀e ∈ o.after,Region.binds .any e=true→l.getD e.on false=true)∧∀k,k<n→l.getD k false=true→F k (u (dst k)) W)∨∃i,0<i∧i≤m∧(∀k,k<n+i→l.getD k false=true)∧(∀k,n+i≤k→k<n+m→l.getD k false=false)∧M i u W) (.inl ⟨fun j hj => ?_,(Below.refl _ w).drew,fun s _=>rfl,fun k o hk h => ?_,fun k hk h => ?_⟩) ?_ ?_
 ·simp[Array.getD,hn,show n+j<n+m by omega]
 ·simp[Array.getD,hn,show k<n+m by omega]at h
 ·simp[Array.getD,hn,show k<n+m by omega]at h
 ·rintro l u W (⟨h1,_⟩|⟨i,hi,him,h2,h3,h⟩) hA
  ·have:=hA n (by omega)
   have h0:=h1 0 hpos
   rw[Nat.add_zero]at h0
   rw[this]at h0
   cases h0
  ·have e:i=m:=by
     rcases Nat.lt_or_ge i m with hlt|hge
     ·have a:=hA (n+i) (by omega)
      have b:=h3 (n+i) (Nat.le_refl _) (by omega)
      rw[a]at b
      cases b
     ·omega
   subst e
   exact fin u W h
 ·rintro l u W k o hI hl hlk ho hd
  have hk:k<n+m:=by rw[←hn];exact (Array.getElem?_eq_some_iff.1 ho).1
  have adv:∀i,i<m→k=n+i→(∀j,j<n+i→l.getD j false=true)→(∀j,n+i≤j→j<n+m→l.getD j false=false)→M i u W→o.wp P (ovr D a0 u) W (fun a' w'=>∃u',a'=ovr D a0 u'∧(((∀j,j<m→(l.setIfInBounds k true).getD (n+j) false=false)∧Below w.heap.size w w'∧(∀s,(∀k,k<n→dst k≠s)→u' s=a0.tmps.getD s undef)∧(∀k' o,k'<n→(l.setIfInBounds k true).getD k' false=true→ops[k']? = some o→∀e ∈ o.after,Region.binds .any e=true→(l.setIfInBounds k true).getD e.on false=true)∧∀k',k'<n→(l.setIfInBounds k true).getD k' false=true→F k' (u' (dst k')) w')∨∃i,0<i∧i≤m∧(∀k',k'<n+i→(l.setIfInBounds k true).getD k' false=true)∧(∀k',n+i≤k'→k'<n+m→(l.setIfInBounds k true).getD k' false=false)∧M i u' w')) Q:=fun i him hki h2 h3 hM=>by
   subst hki
   refine Oper.wp_mono ?_ (mid i o u W him ho hM)
   rintro a' W' ⟨u',rfl,h⟩
   refine⟨u',rfl,.inr ⟨i+1,by omega,by omega,fun j hj => ?_,fun j hj hj2 => ?_,h⟩⟩
   ·by_cases e:j=n+i
    ·subst e;exact listed_ne (by omega)
    ·rw[getD_other l (Ne.symm e)];exact h2 j (by omega)
   ·rw[getD_other l (by omega)];exact h3 j (by omega) hj2
  rcases hI with ⟨h1,hB,hU,hC,hF⟩|⟨i,hi,him,h2,h3,hM⟩
  ·rcases Nat.lt_or_ge k n with hk'|hk'
   ·refine Oper.wp_mono ?_ (step k o u W hk' ho hB hU (fun j hj ⟨e,he,e1,hb⟩=>hF j hj (by rw[←e1];exact hd e he hb)))
    rintro a' W' ⟨v,rfl,hb,hv⟩
    refine⟨_,rfl,.inl ⟨fun j hj => ?_,hB.trans (hb.mono hB.size),fun s hs => ?_,?_,?_⟩⟩
    ·rw[getD_other l (by omega)];exact h1 j hj
    ·have:=hs k hk'
     unfold upd
     rw[if_neg (fun e=>this e.symm)]
     exact hU s hs
    ·intro j o' hj hlj ho' e' he' hb'
     by_cases e2:k=e'.on
     ·rw[←e2];exact listed_ne (by omega)
     ·rw[getD_other l e2]
      by_cases e3:k=j
      ·subst e3
       rw[ho]at ho'
       injection ho' with ho'
       subst ho'
       exact hd e' he' hb'
      ·rw[getD_other l e3]at hlj
       exact hC j o' hj hlj ho' e' he' hb'
    ·exact facts_put (dst:=dst) (hinj k hk') hF (fun j _ _ _ t=>hst j t W W' hb) hv
   ·obtain⟨j,rfl⟩:∃j,k=n+j:=⟨k-n,by omega⟩
    cases j with
    |zero=>
     have hA:∀j,j<n→l.getD j false=true:=hall (fun j=>l.getD j false) (fun j o' ho' hj hjn e he hb=>by
      by_cases e2:j=n
      ·subst e2
       rw[Nat.add_zero,ho']at ho
       injection ho with ho
       subst ho
       exact hd e he hb
      ·exact hC j o' (by omega) (hj (by omega)) ho' e he hb)
     exact adv 0 hpos rfl (fun j hj=>hA j (by omega)) (fun j hj hj2=>by
      obtain⟨i,rfl⟩:∃i,j=n+i:=⟨j-n,by omega⟩
      exact h1 i (by omega)) (m0 u W hB (fun j hj=>hF j hj (hA j hj)))
    |succ j=>
     obtain⟨e,he,e1,hb⟩:=hnext j (by omega) o ho
     have a:=hd e he hb
     rw[e1,h1 j (by omega)]at a
     cases a
  ·have hki:n+i≤k:=by
     rcases Nat.lt_or_ge k (n+i) with hlt|hge
     ·rw[h2 k hlt]at hlk;cases hlk
     ·exact hge
   by_cases e:k=n+i
   ·exact adv i (by omega) e h2 h3 hM
   ·obtain⟨j,rfl⟩:∃j,k=n+j+1:=⟨k-n-1,by omega⟩
    obtain⟨e',he,e1,hb⟩:=hnext j (by omega) o ho
    have a:=hd e' he hb
    rw[e1,h3 (n+j) (by omega) (by omega)]at a
    cases a
section
variable {P:Program} {o:Oper} {D:Nat→Bool} {a0:Act} {u:Nat→Value} {W W':World} {Q:Exit→Act→World→Prop} {dk:Nat} {F:Value→World→Prop} {N:(Nat→Value)→World→Prop}
theorem plainB {v:Value} (hd:o.dst=some dk) (hD:D dk=true) (hrun:(execOp (ovr D a0 u).eval o).run P W = .ok (.value v) W') (hR:Below W.heap.size W W') (hF:F v W') :
    o.wp P (ovr D a0 u) W (fun a' W'=>∃v,a'=ovr D a0 (upd u dk v)∧Below W.heap.size W W'∧F v W') Q:=wp_value hrun ⟨v,put_in hd hD u v,hR,hF⟩
theorem plainA {s x:Operand} {t1 t2:TypeId} {vs vx v:Value} (hd:o.dst=some dk) (hD:D dk=true) (ho:o.op = .call { callee:=.builtin .append,args:=#[s,x],argTypes:=#[t1,t2] }) (hs:(ovr D a0 u).eval s=vs) (hx:(ovr D a0 u).eval x=vx)
    (hr:(Builtin.append_ #[t1,t2] o.type #[vs,vx]).run P W = .ok v W') (hR:Below W.heap.size W W') (hF:F v W') :
    o.wp P (ovr D a0 u) W (fun a' W'=>∃v,a'=ovr D a0 (upd u dk v)∧Below W.heap.size W W'∧F v W') Q:=
 plainB hd hD (by simp[execOp,ho,resolve,invoke,builtin,hs,hx,hr,Result.andThen]) hR hF
theorem tailV {v:Value} (hd:o.dst=some dk) (hD:D dk=true) (hrun:(execOp (ovr D a0 u).eval o).run P W = .ok (.value v) W') (hN:N (upd u dk v) W') :
    o.wp P (ovr D a0 u) W (fun a' W'=>∃u',a'=ovr D a0 u'∧N u' W') Q:=wp_value hrun ⟨_,put_in hd hD u v,hN⟩
theorem tailC {f:FuncId} {args:Array Value} (hd:o.dst=some dk) (hD:D dk=true) (hrun:(execOp (ovr D a0 u).eval o).run P W = .ok (.enter f args) W) (hc:Calls P f args W fun e w'=>∃v,e = .returned v∧N (upd u dk v) w') :
    o.wp P (ovr D a0 u) W (fun a' W'=>∃u',a'=ovr D a0 u'∧N u' W') Q:=wp_call hrun (hc.mono fun _ _ ⟨v,he,h1⟩=>⟨v,he,_,put_in hd hD u v,h1⟩)
theorem tailS (hd:o.dst=none) (hrun:(execOp (ovr D a0 u).eval o).run P W = .ok .skip W') (hN:N u W') :
    o.wp P (ovr D a0 u) W (fun a' W'=>∃u',a'=ovr D a0 u'∧N u' W') Q:=wp_skipped hrun ⟨u,put_no hd u undef,hN⟩
theorem tailA {s x:Operand} {t1 t2:TypeId} {vs vx v:Value} (hd:o.dst=some dk) (hD:D dk=true) (ho:o.op = .call { callee:=.builtin .append,args:=#[s,x],argTypes:=#[t1,t2] }) (hs:(ovr D a0 u).eval s=vs) (hx:(ovr D a0 u).eval x=vx)
    (hr:(Builtin.append_ #[t1,t2] o.type #[vs,vx]).run P W = .ok v W') (hN:N (upd u dk v) W') :
    o.wp P (ovr D a0 u) W (fun a' W'=>∃u',a'=ovr D a0 u'∧N u' W') Q:=
 tailV hd hD (by simp[execOp,ho,resolve,invoke,builtin,hs,hx,hr,Result.andThen]) hN
end
end Go.Proofs.YtkiognecebgaiaaGreatDoor.region
namespace Go.Proofs.YtkiognecebgaiaaGreatDoor.region
open Go
theorem onceV {P:Program} {o:Oper} {D:Nat→Bool} {a0:Act} {u:Nat→Value} {W:World} {Q:Exit→Act→World→Prop} {F:Value→Prop} {dk:Nat} {v:Value} (hd:o.dst=some dk) (hD:D dk=true) (hrun:(execOp (ovr D a0 u).eval o).run P W = .ok (.value v) W) (hF:F v) :
    o.wp P (ovr D a0 u) W (fun a' W'=>∃v,a'=ovr D a0 (upd u dk v)∧W'=W∧F v) Q:=wp_value hrun ⟨v,put_in hd hD u v,rfl,hF⟩
theorem upd_eq (u:Nat→Value) (d:Nat) (v:Value):upd u d v d=v:=by simp[upd]
theorem upd_ne {u:Nat→Value} {d c:Nat} {v:Value} (h:c≠d):upd u d v c=u c:=by simp[upd,h]
theorem wp_region_three {P:Program} {id:Nat} {ops:Array Oper} {Q:Exit→Act→World→Prop} {a0:Act} {w:World} (hm:P.follows .mixedOrders=true) (D:Nat→Bool)
    (hg:∀o ∈ ops,o.guard=none) (hacyc:∀(k:Nat) (o:Oper),ops[k]? = some o→∀e ∈ o.after,Region.binds .any e=true→e.on<k) (n c1 c2 c3:Nat) (hn:ops.size=n+1) (h1n:c1<n) (h2n:c2<n) (h3n:c3<n) (h12:c1≠c2) (h13:c1≠c3) (h23:c2≠c3) (dst:Nat→Nat) (hinj:∀k,k<n→∀j,j<n→dst j=dst k→j=k)
    (F:Nat→Value→Prop) (A0:World→Prop) (A1 A2 A3:Value→World→Prop) (hA:A0 w.drew)
    (hall:∀o,ops[n]? = some o→∀j,j<n→∃e ∈ o.after,e.on=j∧Region.binds .any e=true)
    (he2:∀o,ops[c2]? = some o→∃e ∈ o.after,e.on=c1∧Region.binds .any e=true)
    (he3:∀o,ops[c3]? = some o→∃e ∈ o.after,e.on=c2∧Region.binds .any e=true)
    (step:∀k o u W,k<n→k≠c1→k≠c2→k≠c3→ops[k]? = some o→(A0 W∨A1 (u (dst c1)) W∨A2 (u (dst c2)) W∨A3 (u (dst c3)) W)→(∀j,j<n→(∃e ∈ o.after,e.on=j∧Region.binds .any e=true)→F j (u (dst j)))→o.wp P (ovr D a0 u) W (fun a' W'=>∃v,a'=ovr D a0 (upd u (dst k) v)∧W'=W∧F k v) Q)
    (call1:∀o u W,ops[c1]? = some o→A0 W→(∀j,j<n→(∃e ∈ o.after,e.on=j∧Region.binds .any e=true)→F j (u (dst j)))→o.wp P (ovr D a0 u) W (fun a' W'=>∃v,a'=ovr D a0 (upd u (dst c1) v)∧A1 v W'∧F c1 v) Q)
    (call2:∀o u W,ops[c2]? = some o→A1 (u (dst c1)) W→(∀j,j<n→(∃e ∈ o.after,e.on=j∧Region.binds .any e=true)→F j (u (dst j)))→o.wp P (ovr D a0 u) W (fun a' W'=>∃v,a'=ovr D a0 (upd u (dst c2) v)∧A2 v W'∧F c2 v) Q)
    (call3:∀o u W,ops[c3]? = some o→A2 (u (dst c2)) W→(∀j,j<n→(∃e ∈ o.after,e.on=j∧Region.binds .any e=true)→F j (u (dst j)))→o.wp P (ovr D a0 u) W (fun a' W'=>∃v,a'=ovr D a0 (upd u (dst c3) v)∧A3 v W'∧F c3 v) Q)
    (last:∀o u W,ops[n]? = some o→A3 (u (dst c3)) W→(∀j,j<n→F j (u (dst j)))→o.wp P (ovr D a0 u) W (fun a' W'=>∃u',a'=ovr D a0 u'∧Q .normal (ovr D a0 u') W') Q) :
    (Code.region id ops true).wp P Q a0 w:=by
 refine wp_region_bind hm D hg hacyc (fun l u W=>(l.getD n false=false∧(l.getD c1 false=false→l.getD c2 false=false)∧(l.getD c2 false=false→l.getD c3 false=false)∧(l.getD c1 false=false→A0 W)∧(l.getD c1 false=true→l.getD c2 false=false→A1 (u (dst c1)) W)∧(l.getD c2 false=true→l.getD c3 false=false→A2 (u (dst c2)) W)∧(l.getD c3 false=true→A3 (u (dst c3)) W)∧∀k,k<n→l.getD k false=true→F k (u (dst k)))∨((∀k,k<n+1→l.getD k false=true)∧Q .normal (ovr D a0 u) W)) (.inl ⟨?_,fun _ => ?_,fun _ => ?_,fun _=>hA,fun h => ?_,fun h => ?_,fun h => ?_,fun k hk h => ?_⟩) ?_ ?_
 ·simp[Array.getD,hn]
 ·simp[Array.getD,hn]
 ·simp[Array.getD,hn]
 ·simp[Array.getD,hn,show c1<n+1 by omega]at h
 ·simp[Array.getD,hn,show c2<n+1 by omega]at h
 ·simp[Array.getD,hn,show c3<n+1 by omega]at h
 ·simp[Array.getD,hn,show k<n+1 by omega]at h
 ·rintro l u W (⟨h1,_⟩|⟨_,h⟩) hA
  ·rw[hA n (by omega)]at h1
   cases h1
  ·exact h
 ·rintro l u W k o (⟨h1,k12,k23,B0,B1,B2,B3,hF⟩|⟨hA,_⟩) hl hlk ho hd
  case inr=>
   have hk:k<n+1:=by rw[←hn];exact (Array.getElem?_eq_some_iff.1 ho).1
   rw[hA k hk]at hlk
   cases hlk
  have hk:k<n+1:=by rw[←hn];exact (Array.getElem?_eq_some_iff.1 ho).1
  by_cases e:k=n
  ·subst e
   have hA:∀j,j<k→l.getD j false=true:=fun j hj=>by
    obtain⟨e,he,rfl,hb⟩:=hall o ho j hj
    exact hd e he hb
   refine Oper.wp_mono ?_ (last o u W ho (B3 (hA c3 h3n)) (fun j hj=>hF j hj (hA j hj)))
   rintro a' W' ⟨u',rfl,h⟩
   refine⟨u',rfl,.inr ⟨fun j hj => ?_,h⟩⟩
   by_cases e:j=k
   ·subst e;exact listed_ne (by omega)
   ·rw[getD_other l (Ne.symm e)];exact hA j (by omega)
  ·have hk':k<n:=by omega
   have hfd:∀j,j<n→(∃e ∈ o.after,e.on=j∧Region.binds .any e=true)→F j (u (dst j)):=fun j hj ⟨e,he,e1,hb⟩=>hF j hj (by rw[←e1];exact hd e he hb)
   have hput:∀ {v:Value},F k v→∀j,j<n→(l.set! k true).getD j false=true→F j ((upd u (dst k) v) (dst j)):=fun {v} hv=>facts_put (dst:=dst) (F:=fun k t _=>F k t) (w:=W) (w':=W) (hinj k hk') hF (fun j _ _ _ t z=>z) hv
   have dne:∀c,c<n→c≠k→∀v,(upd u (dst k) v) (dst c)=u (dst c):=fun c hc hck v=>upd_ne (fun e=>hck (hinj k hk' c hc e))
   by_cases ec1:k=c1
   ·subst ec1
    have l2:=k12 hlk
    have l3:=k23 l2
    refine Oper.wp_mono ?_ (call1 o u W ho (B0 hlk) hfd)
    rintro a' W' ⟨v,rfl,hb,hv⟩
    refine⟨_,rfl,.inl ⟨?_,fun h => ?_,fun _ => ?_,fun h => ?_,fun _ _ => ?_,fun h => ?_,fun h => ?_,hput hv⟩⟩
    ·rw[getD_other l e];exact h1
    ·rw[listed_ne (by omega)]at h;cases h
    ·rw[getD_other l h13];exact l3
    ·rw[listed_ne (by omega)]at h;cases h
    ·rw[upd_eq];exact hb
    ·rw[getD_other l h12,l2]at h;cases h
    ·rw[getD_other l h13,l3]at h;cases h
   ·by_cases ec2:k=c2
    ·subst ec2
     have l1:l.getD c1 false=true:=by
      obtain⟨e,he,e1,hb⟩:=he2 o ho
      rw[←e1];exact hd e he hb
     have l3:=k23 hlk
     refine Oper.wp_mono ?_ (call2 o u W ho (B1 l1 hlk) hfd)
     rintro a' W' ⟨v,rfl,hb,hv⟩
     refine⟨_,rfl,.inl ⟨?_,fun h => ?_,fun h => ?_,fun h => ?_,fun _ h => ?_,fun _ _ => ?_,fun h => ?_,hput hv⟩⟩
     ·rw[getD_other l e];exact h1
     ·rw[getD_other l ec1,l1]at h;cases h
     ·rw[listed_ne (by omega)]at h;cases h
     ·rw[getD_other l ec1,l1]at h;cases h
     ·rw[listed_ne (by omega)]at h;cases h
     ·rw[upd_eq];exact hb
     ·rw[getD_other l h23,l3]at h;cases h
    ·by_cases ec3:k=c3
     ·subst ec3
      have l2:l.getD c2 false=true:=by
       obtain⟨e,he,e1,hb⟩:=he3 o ho
       rw[←e1];exact hd e he hb
      have l1:l.getD c1 false=true:=by
       cases hh:l.getD c1 false
       ·rw[k12 hh]at l2;cases l2
       ·rfl
      refine Oper.wp_mono ?_ (call3 o u W ho (B2 l2 hlk) hfd)
      rintro a' W' ⟨v,rfl,hb,hv⟩
      refine⟨_,rfl,.inl ⟨?_,fun h => ?_,fun h => ?_,fun h => ?_,fun _ h => ?_,fun _ h => ?_,fun _ => ?_,hput hv⟩⟩
      ·rw[getD_other l e];exact h1
      ·rw[getD_other l ec1,l1]at h;cases h
      ·rw[getD_other l ec2,l2]at h;cases h
      ·rw[getD_other l ec1,l1]at h;cases h
      ·rw[getD_other l ec2,l2]at h;cases h
      ·rw[listed_ne (by omega)]at h;cases h
      ·rw[upd_eq];exact hb
     ·have hAB:A0 W∨A1 (u (dst c1)) W∨A2 (u (dst c2)) W∨A3 (u (dst c3)) W:=by
        cases hh:l.getD c1 false
        ·exact .inl (B0 hh)
        ·cases hh2:l.getD c2 false
         ·exact .inr (.inl (B1 hh hh2))
         ·cases hh3:l.getD c3 false
          ·exact .inr (.inr (.inl (B2 hh2 hh3)))
          ·exact .inr (.inr (.inr (B3 hh3)))
      refine Oper.wp_mono ?_ (step k o u W hk' ec1 ec2 ec3 ho hAB hfd)
      rintro a' W' ⟨v,rfl,rfl,hv⟩
      refine⟨_,rfl,.inl ⟨?_,fun h => ?_,fun h => ?_,fun h=>B0 ?_,fun h h' => ?_,fun h h' => ?_,fun h => ?_,hput hv⟩⟩
      ·rw[getD_other l e];exact h1
      ·rw[getD_other l ec1]at h;rw[getD_other l ec2];exact k12 h
      ·rw[getD_other l ec2]at h;rw[getD_other l ec3];exact k23 h
      ·rwa [getD_other l ec1]at h
      ·rw[dne c1 h1n (Ne.symm ec1)];rw[getD_other l ec1]at h;rw[getD_other l ec2]at h';exact B1 h h'
      ·rw[dne c2 h2n (Ne.symm ec2)];rw[getD_other l ec2]at h;rw[getD_other l ec3]at h';exact B2 h h'
      ·rw[dne c3 h3n (Ne.symm ec3)];rw[getD_other l ec3]at h;exact B3 h
theorem threeW {P:Program} {o:Oper} {D:Nat→Bool} {a0:Act} {u:Nat→Value} {W W':World} {Q:Exit→Act→World→Prop} {A:Value→World→Prop} {F:Value→Prop} {dk:Nat} {v:Value} (hd:o.dst=some dk) (hD:D dk=true) (hrun:(execOp (ovr D a0 u).eval o).run P W = .ok (.value v) W') (hA:A v W') (hF:F v) :
    o.wp P (ovr D a0 u) W (fun a' W'=>∃v,a'=ovr D a0 (upd u dk v)∧A v W'∧F v) Q:=wp_value hrun ⟨v,put_in hd hD u v,hA,hF⟩
theorem threeC {P:Program} {o:Oper} {D:Nat→Bool} {a0:Act} {u:Nat→Value} {W:World} {Q:Exit→Act→World→Prop} {A:Value→World→Prop} {F:Value→Prop} {dk:Nat} {f:FuncId} {args:Array Value} (hd:o.dst=some dk) (hD:D dk=true) (hrun:(execOp (ovr D a0 u).eval o).run P W = .ok (.enter f args) W) (hc:Calls P f args W fun e w'=>∃v,e = .returned v∧A v w'∧F v) :
    o.wp P (ovr D a0 u) W (fun a' W'=>∃v,a'=ovr D a0 (upd u dk v)∧A v W'∧F v) Q:=wp_call hrun (hc.mono fun _ _ ⟨v,he,h1,h2⟩=>⟨v,he,v,put_in hd hD u v,h1,h2⟩)
theorem wp_region_four {P:Program} {id:Nat} {ops:Array Oper} {Q:Exit→Act→World→Prop} {a0:Act} {w:World} (hm:P.follows .mixedOrders=true) (D:Nat→Bool)
    (hg:∀o ∈ ops,o.guard=none) (hacyc:∀(k:Nat) (o:Oper),ops[k]? = some o→∀e ∈ o.after,Region.binds .any e=true→e.on<k) (n c1 c2 c3 c4:Nat) (hn:ops.size=n+1) (h1n:c1<n) (h2n:c2<n) (h3n:c3<n) (h4n:c4<n) (h12:c1≠c2) (h13:c1≠c3) (h14:c1≠c4) (h23:c2≠c3) (h24:c2≠c4) (h34:c3≠c4) (dst:Nat→Nat) (hinj:∀k,k<n→∀j,j<n→dst j=dst k→j=k)
    (F:Nat→Value→Prop) (A0:World→Prop) (A1 A2 A3 A4:Value→World→Prop) (hA:A0 w.drew)
    (hall:∀o,ops[n]? = some o→∀j,j<n→∃e ∈ o.after,e.on=j∧Region.binds .any e=true)
    (he2:∀o,ops[c2]? = some o→∃e ∈ o.after,e.on=c1∧Region.binds .any e=true)
    (he3:∀o,ops[c3]? = some o→∃e ∈ o.after,e.on=c2∧Region.binds .any e=true)
    (he4:∀o,ops[c4]? = some o→∃e ∈ o.after,e.on=c3∧Region.binds .any e=true)
    (step:∀k o u W,k<n→k≠c1→k≠c2→k≠c3→k≠c4→ops[k]? = some o→(A0 W∨A1 (u (dst c1)) W∨A2 (u (dst c2)) W∨A3 (u (dst c3)) W∨A4 (u (dst c4)) W)→(∀j,j<n→(∃e ∈ o.after,e.on=j∧Region.binds .any e=true)→F j (u (dst j)))→o.wp P (ovr D a0 u) W (fun a' W'=>∃v,a'=ovr D a0 (upd u (dst k) v)∧W'=W∧F k v) Q)
    (call1:∀o u W,ops[c1]? = some o→A0 W→(∀j,j<n→(∃e ∈ o.after,e.on=j∧Region.binds .any e=true)→F j (u (dst j)))→o.wp P (ovr D a0 u) W (fun a' W'=>∃v,a'=ovr D a0 (upd u (dst c1) v)∧A1 v W'∧F c1 v) Q)
    (call2:∀o u W,ops[c2]? = some o→A1 (u (dst c1)) W→(∀j,j<n→(∃e ∈ o.after,e.on=j∧Region.binds .any e=true)→F j (u (dst j)))→o.wp P (ovr D a0 u) W (fun a' W'=>∃v,a'=ovr D a0 (upd u (dst c2) v)∧A2 v W'∧F c2 v) Q)
    (call3:∀o u W,ops[c3]? = some o→A2 (u (dst c2)) W→(∀j,j<n→(∃e ∈ o.after,e.on=j∧Region.binds .any e=true)→F j (u (dst j)))→o.wp P (ovr D a0 u) W (fun a' W'=>∃v,a'=ovr D a0 (upd u (dst c3) v)∧A3 v W'∧F c3 v) Q)
    (call4:∀o u W,ops[c4]? = some o→A3 (u (dst c3)) W→(∀j,j<n→(∃e ∈ o.after,e.on=j∧Region.binds .any e=true)→F j (u (dst j)))→o.wp P (ovr D a0 u) W (fun a' W'=>∃v,a'=ovr D a0 (upd u (dst c4) v)∧A4 v W'∧F c4 v) Q)
    (last:∀o u W,ops[n]? = some o→A4 (u (dst c4)) W→(∀j,j<n→F j (u (dst j)))→o.wp P (ovr D a0 u) W (fun a' W'=>∃u',a'=ovr D a0 u'∧Q .normal (ovr D a0 u') W') Q) :
    (Code.region id ops true).wp P Q a0 w:=by
 refine wp_region_bind hm D hg hacyc (fun l u W=>(l.getD n false=false∧(l.getD c1 false=false→l.getD c2 false=false)∧(l.getD c2 false=false→l.getD c3 false=false)∧(l.getD c3 false=false→l.getD c4 false=false)∧(l.getD c1 false=false→A0 W)∧(l.getD c1 false=true→l.getD c2 false=false→A1 (u (dst c1)) W)∧(l.getD c2 false=true→l.getD c3 false=false→A2 (u (dst c2)) W)∧(l.getD c3 false=true→l.getD c4 false=false→A3 (u (dst c3)) W)∧(l.getD c4 false=true→A4 (u (dst c4)) W)∧∀k,k<n→l.getD k false=true→F k (u (dst k)))∨((∀k,k<n+1→l.getD k false=true)∧Q .normal (ovr D a0 u) W)) (.inl ⟨?_,fun _ => ?_,fun _ => ?_,fun _ => ?_,fun _=>hA,fun h => ?_,fun h => ?_,fun h => ?_,fun h => ?_,fun k hk h => ?_⟩) ?_ ?_
 ·simp[Array.getD,hn]
 ·simp[Array.getD,hn]
 ·simp[Array.getD,hn]
 ·simp[Array.getD,hn]
 ·simp[Array.getD,hn,show c1<n+1 by omega]at h
 ·simp[Array.getD,hn,show c2<n+1 by omega]at h
 ·simp[Array.getD,hn,show c3<n+1 by omega]at h
 ·simp[Array.getD,hn,show c4<n+1 by omega]at h
 ·simp[Array.getD,hn,show k<n+1 by omega]at h
 ·rintro l u W (⟨h1,_⟩|⟨_,h⟩) hA
  ·rw[hA n (by omega)]at h1
   cases h1
  ·exact h
 ·rintro l u W k o (⟨h1,k12,k23,k34,B0,B1,B2,B3,B4,hF⟩|⟨hA,_⟩) hl hlk ho hd
  case inr=>
   have hk:k<n+1:=by rw[←hn];exact (Array.getElem?_eq_some_iff.1 ho).1
   rw[hA k hk]at hlk
   cases hlk
  have hk:k<n+1:=by rw[←hn];exact (Array.getElem?_eq_some_iff.1 ho).1
  by_cases e:k=n
  ·subst e
   have hA:∀j,j<k→l.getD j false=true:=fun j hj=>by
    obtain⟨e,he,rfl,hb⟩:=hall o ho j hj
    exact hd e he hb
   refine Oper.wp_mono ?_ (last o u W ho (B4 (hA c4 h4n)) (fun j hj=>hF j hj (hA j hj)))
   rintro a' W' ⟨u',rfl,h⟩
   refine⟨u',rfl,.inr ⟨fun j hj => ?_,h⟩⟩
   by_cases e:j=k
   ·subst e;exact listed_ne (by omega)
   ·rw[getD_other l (Ne.symm e)];exact hA j (by omega)
  ·have hk':k<n:=by omega
   have hfd:∀j,j<n→(∃e ∈ o.after,e.on=j∧Region.binds .any e=true)→F j (u (dst j)):=fun j hj ⟨e,he,e1,hb⟩=>hF j hj (by rw[←e1];exact hd e he hb)
   have hput:∀ {v:Value},F k v→∀j,j<n→(l.set! k true).getD j false=true→F j ((upd u (dst k) v) (dst j)):=fun {v} hv=>facts_put (dst:=dst) (F:=fun k t _=>F k t) (w:=W) (w':=W) (hinj k hk') hF (fun j _ _ _ t z=>z) hv
   have dne:∀c,c<n→c≠k→∀v,(upd u (dst k) v) (dst c)=u (dst c):=fun c hc hck v=>upd_ne (fun e=>hck (hinj k hk' c hc e))
   by_cases ec1:k=c1
   ·subst ec1
    have l2:=k12 hlk
    have l3:=k23 l2
    have l4:=k34 l3
    refine Oper.wp_mono ?_ (call1 o u W ho (B0 hlk) hfd)
    rintro a' W' ⟨v,rfl,hb,hv⟩
    refine⟨_,rfl,.inl ⟨?_,fun h => ?_,fun _ => ?_,fun _ => ?_,fun h => ?_,fun _ _ => ?_,fun h => ?_,fun h => ?_,fun h => ?_,hput hv⟩⟩
    ·rw[getD_other l e];exact h1
    ·rw[listed_ne (by omega)]at h;cases h
    ·rw[getD_other l h13];exact l3
    ·rw[getD_other l h14];exact l4
    ·rw[listed_ne (by omega)]at h;cases h
    ·rw[upd_eq];exact hb
    ·rw[getD_other l h12,l2]at h;cases h
    ·rw[getD_other l h13,l3]at h;cases h
    ·rw[getD_other l h14,l4]at h;cases h
   ·skip
    by_cases ec2:k=c2
    ·subst ec2
     have l1:l.getD c1 false=true:=by
      obtain⟨e,he,e1,hb⟩:=he2 o ho
      rw[←e1];exact hd e he hb
     have l3:=k23 hlk
     have l4:=k34 l3
     refine Oper.wp_mono ?_ (call2 o u W ho (B1 l1 hlk) hfd)
     rintro a' W' ⟨v,rfl,hb,hv⟩
     refine⟨_,rfl,.inl ⟨?_,fun h => ?_,fun h => ?_,fun _ => ?_,fun h => ?_,fun _ h => ?_,fun _ _ => ?_,fun h => ?_,fun h => ?_,hput hv⟩⟩
     ·rw[getD_other l e];exact h1
     ·rw[getD_other l (Ne.symm h12),l1]at h;cases h
     ·rw[listed_ne (by omega)]at h;cases h
     ·rw[getD_other l h24];exact l4
     ·rw[getD_other l (Ne.symm h12),l1]at h;cases h
     ·rw[listed_ne (by omega)]at h;cases h
     ·rw[upd_eq];exact hb
     ·rw[getD_other l h23,l3]at h;cases h
     ·rw[getD_other l h24,l4]at h;cases h
    ·skip
     by_cases ec3:k=c3
     ·subst ec3
      have l2:l.getD c2 false=true:=by
       obtain⟨e,he,e1,hb⟩:=he3 o ho
       rw[←e1];exact hd e he hb
      have l1:l.getD c1 false=true:=by
       cases hh:l.getD c1 false
       ·rw[k12 hh]at l2;cases l2
       ·rfl
      have l4:=k34 hlk
      refine Oper.wp_mono ?_ (call3 o u W ho (B2 l2 hlk) hfd)
      rintro a' W' ⟨v,rfl,hb,hv⟩
      refine⟨_,rfl,.inl ⟨?_,fun h => ?_,fun h => ?_,fun h => ?_,fun h => ?_,fun _ h => ?_,fun _ h => ?_,fun _ _ => ?_,fun h => ?_,hput hv⟩⟩
      ·rw[getD_other l e];exact h1
      ·rw[getD_other l (Ne.symm h13),l1]at h;cases h
      ·rw[getD_other l (Ne.symm h23),l2]at h;cases h
      ·rw[listed_ne (by omega)]at h;cases h
      ·rw[getD_other l (Ne.symm h13),l1]at h;cases h
      ·rw[getD_other l (Ne.symm h23),l2]at h;cases h
      ·rw[listed_ne (by omega)]at h;cases h
      ·rw[upd_eq];exact hb
      ·rw[getD_other l h34,l4]at h;cases h
     ·skip
      by_cases ec4:k=c4
      ·subst ec4
       have l3:l.getD c3 false=true:=by
        obtain⟨e,he,e1,hb⟩:=he4 o ho
        rw[←e1];exact hd e he hb
       have l2:l.getD c2 false=true:=by
        cases hh:l.getD c2 false
        ·rw[k23 hh]at l3;cases l3
        ·rfl
       have l1:l.getD c1 false=true:=by
        cases hh:l.getD c1 false
        ·rw[k12 hh]at l2;cases l2
        ·rfl
       refine Oper.wp_mono ?_ (call4 o u W ho (B3 l3 hlk) hfd)
       rintro a' W' ⟨v,rfl,hb,hv⟩
       refine⟨_,rfl,.inl ⟨?_,fun h => ?_,fun h => ?_,fun h => ?_,fun h => ?_,fun _ h => ?_,fun _ h => ?_,fun _ h => ?_,fun _ => ?_,hput hv⟩⟩
       ·rw[getD_other l e];exact h1
       ·rw[getD_other l (Ne.symm h14),l1]at h;cases h
       ·rw[getD_other l (Ne.symm h24),l2]at h;cases h
       ·rw[getD_other l (Ne.symm h34),l3]at h;cases h
       ·rw[getD_other l (Ne.symm h14),l1]at h;cases h
       ·rw[getD_other l (Ne.symm h24),l2]at h;cases h
       ·rw[getD_other l (Ne.symm h34),l3]at h;cases h
       ·rw[listed_ne (by omega)]at h;cases h
       ·rw[upd_eq];exact hb
      ·skip
       have hAB:A0 W∨A1 (u (dst c1)) W∨A2 (u (dst c2)) W∨A3 (u (dst c3)) W∨A4 (u (dst c4)) W:=by
        cases hh1:l.getD c1 false
        ·exact .inl (B0 hh1)
        ·skip
         cases hh2:l.getD c2 false
         ·exact .inr (.inl (B1 hh1 hh2))
         ·skip
          cases hh3:l.getD c3 false
          ·exact .inr (.inr (.inl (B2 hh2 hh3)))
          ·skip
           cases hh4:l.getD c4 false
           ·exact .inr (.inr (.inr (.inl (B3 hh3 hh4))))
           ·exact .inr (.inr (.inr (.inr (B4 hh4))))
       refine Oper.wp_mono ?_ (step k o u W hk' ec1 ec2 ec3 ec4 ho hAB hfd)
       rintro a' W' ⟨v,rfl,rfl,hv⟩
       refine⟨_,rfl,.inl ⟨?_,fun h => ?_,fun h => ?_,fun h => ?_,fun h=>B0 ?_,fun h h' => ?_,fun h h' => ?_,fun h h' => ?_,fun h => ?_,hput hv⟩⟩
       ·rw[getD_other l e];exact h1
       ·rw[getD_other l ec1]at h;rw[getD_other l ec2];exact k12 h
       ·rw[getD_other l ec2]at h;rw[getD_other l ec3];exact k23 h
       ·rw[getD_other l ec3]at h;rw[getD_other l ec4];exact k34 h
       ·rwa [getD_other l ec1]at h
       ·rw[dne c1 h1n (Ne.symm ec1)];rw[getD_other l ec1]at h;rw[getD_other l ec2]at h';exact B1 h h'
       ·rw[dne c2 h2n (Ne.symm ec2)];rw[getD_other l ec2]at h;rw[getD_other l ec3]at h';exact B2 h h'
       ·rw[dne c3 h3n (Ne.symm ec3)];rw[getD_other l ec3]at h;rw[getD_other l ec4]at h';exact B3 h h'
       ·rw[dne c4 h4n (Ne.symm ec4)];rw[getD_other l ec4]at h;exact B4 h
theorem wp_region_six {P:Program} {id:Nat} {ops:Array Oper} {Q:Exit→Act→World→Prop} {a0:Act} {w:World} (hm:P.follows .mixedOrders=true) (D:Nat→Bool)
    (hg:∀o ∈ ops,o.guard=none) (hacyc:∀(k:Nat) (o:Oper),ops[k]? = some o→∀e ∈ o.after,Region.binds .any e=true→e.on<k) (n c1 c2 c3 c4 c5 c6:Nat) (hn:ops.size=n+1) (h1n:c1<n) (h2n:c2<n) (h3n:c3<n) (h4n:c4<n) (h5n:c5<n) (h6n:c6<n) (h12:c1≠c2) (h13:c1≠c3) (h14:c1≠c4) (h15:c1≠c5) (h16:c1≠c6) (h23:c2≠c3) (h24:c2≠c4) (h25:c2≠c5) (h26:c2≠c6) (h34:c3≠c4) (h35:c3≠c5) (h36:c3≠c6) (h45:c4≠c5) (h46:c4≠c6) (h56:c5≠c6) (dst:Nat→Nat) (hinj:∀k,k<n→∀j,j<n→dst j=dst k→j=k)
    (F:Nat→Value→Prop) (A0:World→Prop) (A1 A2 A3 A4 A5 A6:Value→World→Prop) (hA:A0 w.drew)
    (hall:∀o,ops[n]? = some o→∀j,j<n→∃e ∈ o.after,e.on=j∧Region.binds .any e=true)
    (he2:∀o,ops[c2]? = some o→∃e ∈ o.after,e.on=c1∧Region.binds .any e=true)
    (he3:∀o,ops[c3]? = some o→∃e ∈ o.after,e.on=c2∧Region.binds .any e=true)
    (he4:∀o,ops[c4]? = some o→∃e ∈ o.after,e.on=c3∧Region.binds .any e=true)
    (he5:∀o,ops[c5]? = some o→∃e ∈ o.after,e.on=c4∧Region.binds .any e=true)
    (he6:∀o,ops[c6]? = some o→∃e ∈ o.after,e.on=c5∧Region.binds .any e=true)
    (step:∀k o u W,k<n→k≠c1→k≠c2→k≠c3→k≠c4→k≠c5→k≠c6→ops[k]? = some o→(A0 W∨A1 (u (dst c1)) W∨A2 (u (dst c2)) W∨A3 (u (dst c3)) W∨A4 (u (dst c4)) W∨A5 (u (dst c5)) W∨A6 (u (dst c6)) W)→(∀j,j<n→(∃e ∈ o.after,e.on=j∧Region.binds .any e=true)→F j (u (dst j)))→o.wp P (ovr D a0 u) W (fun a' W'=>∃v,a'=ovr D a0 (upd u (dst k) v)∧W'=W∧F k v) Q)
    (call1:∀o u W,ops[c1]? = some o→A0 W→(∀j,j<n→(∃e ∈ o.after,e.on=j∧Region.binds .any e=true)→F j (u (dst j)))→o.wp P (ovr D a0 u) W (fun a' W'=>∃v,a'=ovr D a0 (upd u (dst c1) v)∧A1 v W'∧F c1 v) Q)
    (call2:∀o u W,ops[c2]? = some o→A1 (u (dst c1)) W→(∀j,j<n→(∃e ∈ o.after,e.on=j∧Region.binds .any e=true)→F j (u (dst j)))→o.wp P (ovr D a0 u) W (fun a' W'=>∃v,a'=ovr D a0 (upd u (dst c2) v)∧A2 v W'∧F c2 v) Q)
    (call3:∀o u W,ops[c3]? = some o→A2 (u (dst c2)) W→(∀j,j<n→(∃e ∈ o.after,e.on=j∧Region.binds .any e=true)→F j (u (dst j)))→o.wp P (ovr D a0 u) W (fun a' W'=>∃v,a'=ovr D a0 (upd u (dst c3) v)∧A3 v W'∧F c3 v) Q)
    (call4:∀o u W,ops[c4]? = some o→A3 (u (dst c3)) W→(∀j,j<n→(∃e ∈ o.after,e.on=j∧Region.binds .any e=true)→F j (u (dst j)))→o.wp P (ovr D a0 u) W (fun a' W'=>∃v,a'=ovr D a0 (upd u (dst c4) v)∧A4 v W'∧F c4 v) Q)
    (call5:∀o u W,ops[c5]? = some o→A4 (u (dst c4)) W→(∀j,j<n→(∃e ∈ o.after,e.on=j∧Region.binds .any e=true)→F j (u (dst j)))→o.wp P (ovr D a0 u) W (fun a' W'=>∃v,a'=ovr D a0 (upd u (dst c5) v)∧A5 v W'∧F c5 v) Q)
    (call6:∀o u W,ops[c6]? = some o→A5 (u (dst c5)) W→(∀j,j<n→(∃e ∈ o.after,e.on=j∧Region.binds .any e=true)→F j (u (dst j)))→o.wp P (ovr D a0 u) W (fun a' W'=>∃v,a'=ovr D a0 (upd u (dst c6) v)∧A6 v W'∧F c6 v) Q)
    (last:∀o u W,ops[n]? = some o→A6 (u (dst c6)) W→(∀j,j<n→F j (u (dst j)))→o.wp P (ovr D a0 u) W (fun a' W'=>∃u',a'=ovr D a0 u'∧Q .normal (ovr D a0 u') W') Q) :
    (Code.region id ops true).wp P Q a0 w:=by
 refine wp_region_bind hm D hg hacyc (fun l u W=>(l.getD n false=false∧(l.getD c1 false=false→l.getD c2 false=false)∧(l.getD c2 false=false→l.getD c3 false=false)∧(l.getD c3 false=false→l.getD c4 false=false)∧(l.getD c4 false=false→l.getD c5 false=false)∧(l.getD c5 false=false→l.getD c6 false=false)∧(l.getD c1 false=false→A0 W)∧(l.getD c1 false=true→l.getD c2 false=false→A1 (u (dst c1)) W)∧(l.getD c2 false=true→l.getD c3 false=false→A2 (u (dst c2)) W)∧(l.getD c3 false=true→l.getD c4 false=false→A3 (u (dst c3)) W)∧(l.getD c4 false=true→l.getD c5 false=false→A4 (u (dst c4)) W)∧(l.getD c5 false=true→l.getD c6 false=false→A5 (u (dst c5)) W)∧(l.getD c6 false=true→A6 (u (dst c6)) W)∧∀k,k<n→l.getD k false=true→F k (u (dst k)))∨((∀k,k<n+1→l.getD k false=true)∧Q .normal (ovr D a0 u) W)) (.inl ⟨?_,fun _ => ?_,fun _ => ?_,fun _ => ?_,fun _ => ?_,fun _ => ?_,fun _=>hA,fun h => ?_,fun h => ?_,fun h => ?_,fun h => ?_,fun h => ?_,fun h => ?_,fun k hk h => ?_⟩) ?_ ?_
 ·simp[Array.getD,hn]
 ·simp[Array.getD,hn]
 ·simp[Array.getD,hn]
 ·simp[Array.getD,hn]
 ·simp[Array.getD,hn]
 ·simp[Array.getD,hn]
 ·simp[Array.getD,hn,show c1<n+1 by omega]at h
 ·simp[Array.getD,hn,show c2<n+1 by omega]at h
 ·simp[Array.getD,hn,show c3<n+1 by omega]at h
 ·simp[Array.getD,hn,show c4<n+1 by omega]at h
 ·simp[Array.getD,hn,show c5<n+1 by omega]at h
 ·simp[Array.getD,hn,show c6<n+1 by omega]at h
 ·simp[Array.getD,hn,show k<n+1 by omega]at h
 ·rintro l u W (⟨h1,_⟩|⟨_,h⟩) hA
  ·rw[hA n (by omega)]at h1
   cases h1
  ·exact h
 ·rintro l u W k o (⟨h1,k12,k23,k34,k45,k56,B0,B1,B2,B3,B4,B5,B6,hF⟩|⟨hA,_⟩) hl hlk ho hd
  case inr=>
   have hk:k<n+1:=by rw[←hn];exact (Array.getElem?_eq_some_iff.1 ho).1
   rw[hA k hk]at hlk
   cases hlk
  have hk:k<n+1:=by rw[←hn];exact (Array.getElem?_eq_some_iff.1 ho).1
  by_cases e:k=n
  ·subst e
   have hA:∀j,j<k→l.getD j false=true:=fun j hj=>by
    obtain⟨e,he,rfl,hb⟩:=hall o ho j hj
    exact hd e he hb
   refine Oper.wp_mono ?_ (last o u W ho (B6 (hA c6 h6n)) (fun j hj=>hF j hj (hA j hj)))
   rintro a' W' ⟨u',rfl,h⟩
   refine⟨u',rfl,.inr ⟨fun j hj => ?_,h⟩⟩
   by_cases e:j=k
   ·subst e;exact listed_ne (by omega)
   ·rw[getD_other l (Ne.symm e)];exact hA j (by omega)
  ·have hk':k<n:=by omega
   have hfd:∀j,j<n→(∃e ∈ o.after,e.on=j∧Region.binds .any e=true)→F j (u (dst j)):=fun j hj ⟨e,he,e1,hb⟩=>hF j hj (by rw[←e1];exact hd e he hb)
   have hput:∀ {v:Value},F k v→∀j,j<n→(l.set! k true).getD j false=true→F j ((upd u (dst k) v) (dst j)):=fun {v} hv=>facts_put (dst:=dst) (F:=fun k t _=>F k t) (w:=W) (w':=W) (hinj k hk') hF (fun j _ _ _ t z=>z) hv
   have dne:∀c,c<n→c≠k→∀v,(upd u (dst k) v) (dst c)=u (dst c):=fun c hc hck v=>upd_ne (fun e=>hck (hinj k hk' c hc e))
   by_cases ec1:k=c1
   ·subst ec1
    have l2:=k12 hlk
    have l3:=k23 l2
    have l4:=k34 l3
    have l5:=k45 l4
    have l6:=k56 l5
    refine Oper.wp_mono ?_ (call1 o u W ho (B0 hlk) hfd)
    rintro a' W' ⟨v,rfl,hb,hv⟩
    refine⟨_,rfl,.inl ⟨?_,fun h => ?_,fun _ => ?_,fun _ => ?_,fun _ => ?_,fun _ => ?_,fun h => ?_,fun _ _ => ?_,fun h => ?_,fun h => ?_,fun h => ?_,fun h => ?_,fun h => ?_,hput hv⟩⟩
    ·rw[getD_other l e];exact h1
    ·rw[listed_ne (by omega)]at h;cases h
    ·rw[getD_other l h13];exact l3
    ·rw[getD_other l h14];exact l4
    ·rw[getD_other l h15];exact l5
    ·rw[getD_other l h16];exact l6
    ·rw[listed_ne (by omega)]at h;cases h
    ·rw[upd_eq];exact hb
    ·rw[getD_other l h12,l2]at h;cases h
    ·rw[getD_other l h13,l3]at h;cases h
    ·rw[getD_other l h14,l4]at h;cases h
    ·rw[getD_other l h15,l5]at h;cases h
    ·rw[getD_other l h16,l6]at h;cases h
   ·skip
    by_cases ec2:k=c2
    ·subst ec2
     have l1:l.getD c1 false=true:=by
      obtain⟨e,he,e1,hb⟩:=he2 o ho
      rw[←e1];exact hd e he hb
     have l3:=k23 hlk
     have l4:=k34 l3
     have l5:=k45 l4
     have l6:=k56 l5
     refine Oper.wp_mono ?_ (call2 o u W ho (B1 l1 hlk) hfd)
     rintro a' W' ⟨v,rfl,hb,hv⟩
     refine⟨_,rfl,.inl ⟨?_,fun h => ?_,fun h => ?_,fun _ => ?_,fun _ => ?_,fun _ => ?_,fun h => ?_,fun _ h => ?_,fun _ _ => ?_,fun h => ?_,fun h => ?_,fun h => ?_,fun h => ?_,hput hv⟩⟩
     ·rw[getD_other l e];exact h1
     ·rw[getD_other l (Ne.symm h12),l1]at h;cases h
     ·rw[listed_ne (by omega)]at h;cases h
     ·rw[getD_other l h24];exact l4
     ·rw[getD_other l h25];exact l5
     ·rw[getD_other l h26];exact l6
     ·rw[getD_other l (Ne.symm h12),l1]at h;cases h
     ·rw[listed_ne (by omega)]at h;cases h
     ·rw[upd_eq];exact hb
     ·rw[getD_other l h23,l3]at h;cases h
     ·rw[getD_other l h24,l4]at h;cases h
     ·rw[getD_other l h25,l5]at h;cases h
     ·rw[getD_other l h26,l6]at h;cases h
    ·skip
     by_cases ec3:k=c3
     ·subst ec3
      have l2:l.getD c2 false=true:=by
       obtain⟨e,he,e1,hb⟩:=he3 o ho
       rw[←e1];exact hd e he hb
      have l1:l.getD c1 false=true:=by
       cases hh:l.getD c1 false
       ·rw[k12 hh]at l2;cases l2
       ·rfl
      have l4:=k34 hlk
      have l5:=k45 l4
      have l6:=k56 l5
      refine Oper.wp_mono ?_ (call3 o u W ho (B2 l2 hlk) hfd)
      rintro a' W' ⟨v,rfl,hb,hv⟩
      refine⟨_,rfl,.inl ⟨?_,fun h => ?_,fun h => ?_,fun h => ?_,fun _ => ?_,fun _ => ?_,fun h => ?_,fun _ h => ?_,fun _ h => ?_,fun _ _ => ?_,fun h => ?_,fun h => ?_,fun h => ?_,hput hv⟩⟩
      ·rw[getD_other l e];exact h1
      ·rw[getD_other l (Ne.symm h13),l1]at h;cases h
      ·rw[getD_other l (Ne.symm h23),l2]at h;cases h
      ·rw[listed_ne (by omega)]at h;cases h
      ·rw[getD_other l h35];exact l5
      ·rw[getD_other l h36];exact l6
      ·rw[getD_other l (Ne.symm h13),l1]at h;cases h
      ·rw[getD_other l (Ne.symm h23),l2]at h;cases h
      ·rw[listed_ne (by omega)]at h;cases h
      ·rw[upd_eq];exact hb
      ·rw[getD_other l h34,l4]at h;cases h
      ·rw[getD_other l h35,l5]at h;cases h
      ·rw[getD_other l h36,l6]at h;cases h
     ·skip
      by_cases ec4:k=c4
      ·subst ec4
       have l3:l.getD c3 false=true:=by
        obtain⟨e,he,e1,hb⟩:=he4 o ho
        rw[←e1];exact hd e he hb
       have l2:l.getD c2 false=true:=by
        cases hh:l.getD c2 false
        ·rw[k23 hh]at l3;cases l3
        ·rfl
       have l1:l.getD c1 false=true:=by
        cases hh:l.getD c1 false
        ·rw[k12 hh]at l2;cases l2
        ·rfl
       have l5:=k45 hlk
       have l6:=k56 l5
       refine Oper.wp_mono ?_ (call4 o u W ho (B3 l3 hlk) hfd)
       rintro a' W' ⟨v,rfl,hb,hv⟩
       refine⟨_,rfl,.inl ⟨?_,fun h => ?_,fun h => ?_,fun h => ?_,fun h => ?_,fun _ => ?_,fun h => ?_,fun _ h => ?_,fun _ h => ?_,fun _ h => ?_,fun _ _ => ?_,fun h => ?_,fun h => ?_,hput hv⟩⟩
       ·rw[getD_other l e];exact h1
       ·rw[getD_other l (Ne.symm h14),l1]at h;cases h
       ·rw[getD_other l (Ne.symm h24),l2]at h;cases h
       ·rw[getD_other l (Ne.symm h34),l3]at h;cases h
       ·rw[listed_ne (by omega)]at h;cases h
       ·rw[getD_other l h46];exact l6
       ·rw[getD_other l (Ne.symm h14),l1]at h;cases h
       ·rw[getD_other l (Ne.symm h24),l2]at h;cases h
       ·rw[getD_other l (Ne.symm h34),l3]at h;cases h
       ·rw[listed_ne (by omega)]at h;cases h
       ·rw[upd_eq];exact hb
       ·rw[getD_other l h45,l5]at h;cases h
       ·rw[getD_other l h46,l6]at h;cases h
      ·skip
       by_cases ec5:k=c5
       ·subst ec5
        have l4:l.getD c4 false=true:=by
         obtain⟨e,he,e1,hb⟩:=he5 o ho
         rw[←e1];exact hd e he hb
        have l3:l.getD c3 false=true:=by
         cases hh:l.getD c3 false
         ·rw[k34 hh]at l4;cases l4
         ·rfl
        have l2:l.getD c2 false=true:=by
         cases hh:l.getD c2 false
         ·rw[k23 hh]at l3;cases l3
         ·rfl
        have l1:l.getD c1 false=true:=by
         cases hh:l.getD c1 false
         ·rw[k12 hh]at l2;cases l2
         ·rfl
        have l6:=k56 hlk
        refine Oper.wp_mono ?_ (call5 o u W ho (B4 l4 hlk) hfd)
        rintro a' W' ⟨v,rfl,hb,hv⟩
        refine⟨_,rfl,.inl ⟨?_,fun h => ?_,fun h => ?_,fun h => ?_,fun h => ?_,fun h => ?_,fun h => ?_,fun _ h => ?_,fun _ h => ?_,fun _ h => ?_,fun _ h => ?_,fun _ _ => ?_,fun h => ?_,hput hv⟩⟩
        ·rw[getD_other l e];exact h1
        ·rw[getD_other l (Ne.symm h15),l1]at h;cases h
        ·rw[getD_other l (Ne.symm h25),l2]at h;cases h
        ·rw[getD_other l (Ne.symm h35),l3]at h;cases h
        ·rw[getD_other l (Ne.symm h45),l4]at h;cases h
        ·rw[listed_ne (by omega)]at h;cases h
        ·rw[getD_other l (Ne.symm h15),l1]at h;cases h
        ·rw[getD_other l (Ne.symm h25),l2]at h;cases h
        ·rw[getD_other l (Ne.symm h35),l3]at h;cases h
        ·rw[getD_other l (Ne.symm h45),l4]at h;cases h
        ·rw[listed_ne (by omega)]at h;cases h
        ·rw[upd_eq];exact hb
        ·rw[getD_other l h56,l6]at h;cases h
       ·skip
        by_cases ec6:k=c6
        ·subst ec6
         have l5:l.getD c5 false=true:=by
          obtain⟨e,he,e1,hb⟩:=he6 o ho
          rw[←e1];exact hd e he hb
         have l4:l.getD c4 false=true:=by
          cases hh:l.getD c4 false
          ·rw[k45 hh]at l5;cases l5
          ·rfl
         have l3:l.getD c3 false=true:=by
          cases hh:l.getD c3 false
          ·rw[k34 hh]at l4;cases l4
          ·rfl
         have l2:l.getD c2 false=true:=by
          cases hh:l.getD c2 false
          ·rw[k23 hh]at l3;cases l3
          ·rfl
         have l1:l.getD c1 false=true:=by
          cases hh:l.getD c1 false
          ·rw[k12 hh]at l2;cases l2
          ·rfl
         refine Oper.wp_mono ?_ (call6 o u W ho (B5 l5 hlk) hfd)
         rintro a' W' ⟨v,rfl,hb,hv⟩
         refine⟨_,rfl,.inl ⟨?_,fun h => ?_,fun h => ?_,fun h => ?_,fun h => ?_,fun h => ?_,fun h => ?_,fun _ h => ?_,fun _ h => ?_,fun _ h => ?_,fun _ h => ?_,fun _ h => ?_,fun _ => ?_,hput hv⟩⟩
         ·rw[getD_other l e];exact h1
         ·rw[getD_other l (Ne.symm h16),l1]at h;cases h
         ·rw[getD_other l (Ne.symm h26),l2]at h;cases h
         ·rw[getD_other l (Ne.symm h36),l3]at h;cases h
         ·rw[getD_other l (Ne.symm h46),l4]at h;cases h
         ·rw[getD_other l (Ne.symm h56),l5]at h;cases h
         ·rw[getD_other l (Ne.symm h16),l1]at h;cases h
         ·rw[getD_other l (Ne.symm h26),l2]at h;cases h
         ·rw[getD_other l (Ne.symm h36),l3]at h;cases h
         ·rw[getD_other l (Ne.symm h46),l4]at h;cases h
         ·rw[getD_other l (Ne.symm h56),l5]at h;cases h
         ·rw[listed_ne (by omega)]at h;cases h
         ·rw[upd_eq];exact hb
        ·skip
         have hAB:A0 W∨A1 (u (dst c1)) W∨A2 (u (dst c2)) W∨A3 (u (dst c3)) W∨A4 (u (dst c4)) W∨A5 (u (dst c5)) W∨A6 (u (dst c6)) W:=by
          cases hh1:l.getD c1 false
          ·exact .inl (B0 hh1)
          ·skip
           cases hh2:l.getD c2 false
           ·exact .inr (.inl (B1 hh1 hh2))
           ·skip
            cases hh3:l.getD c3 false
            ·exact .inr (.inr (.inl (B2 hh2 hh3)))
            ·skip
             cases hh4:l.getD c4 false
             ·exact .inr (.inr (.inr (.inl (B3 hh3 hh4))))
             ·skip
              cases hh5:l.getD c5 false
              ·exact .inr (.inr (.inr (.inr (.inl (B4 hh4 hh5)))))
              ·skip
               cases hh6:l.getD c6 false
               ·exact .inr (.inr (.inr (.inr (.inr (.inl (B5 hh5 hh6))))))
               ·exact .inr (.inr (.inr (.inr (.inr (.inr (B6 hh6))))))
         refine Oper.wp_mono ?_ (step k o u W hk' ec1 ec2 ec3 ec4 ec5 ec6 ho hAB hfd)
         rintro a' W' ⟨v,rfl,rfl,hv⟩
         refine⟨_,rfl,.inl ⟨?_,fun h => ?_,fun h => ?_,fun h => ?_,fun h => ?_,fun h => ?_,fun h=>B0 ?_,fun h h' => ?_,fun h h' => ?_,fun h h' => ?_,fun h h' => ?_,fun h h' => ?_,fun h => ?_,hput hv⟩⟩
         ·rw[getD_other l e];exact h1
         ·rw[getD_other l ec1]at h;rw[getD_other l ec2];exact k12 h
         ·rw[getD_other l ec2]at h;rw[getD_other l ec3];exact k23 h
         ·rw[getD_other l ec3]at h;rw[getD_other l ec4];exact k34 h
         ·rw[getD_other l ec4]at h;rw[getD_other l ec5];exact k45 h
         ·rw[getD_other l ec5]at h;rw[getD_other l ec6];exact k56 h
         ·rwa [getD_other l ec1]at h
         ·rw[dne c1 h1n (Ne.symm ec1)];rw[getD_other l ec1]at h;rw[getD_other l ec2]at h';exact B1 h h'
         ·rw[dne c2 h2n (Ne.symm ec2)];rw[getD_other l ec2]at h;rw[getD_other l ec3]at h';exact B2 h h'
         ·rw[dne c3 h3n (Ne.symm ec3)];rw[getD_other l ec3]at h;rw[getD_other l ec4]at h';exact B3 h h'
         ·rw[dne c4 h4n (Ne.symm ec4)];rw[getD_other l ec4]at h;rw[getD_other l ec5]at h';exact B4 h h'
         ·rw[dne c5 h5n (Ne.symm ec5)];rw[getD_other l ec5]at h;rw[getD_other l ec6]at h';exact B5 h h'
         ·rw[dne c6 h6n (Ne.symm ec6)];rw[getD_other l ec6]at h;exact B6 h
end Go.Proofs.YtkiognecebgaiaaGreatDoor.region
