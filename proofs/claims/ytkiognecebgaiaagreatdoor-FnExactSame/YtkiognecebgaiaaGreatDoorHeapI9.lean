/-
  Chapter 9 as the program has it: the chunk at a place (slices.BinarySearchFunc).
  Made from the template HeapI9.
-/
import Derived.Test.YtkiognecebgaiaaGreatDoorHeapI8
namespace Go.Proofs.YtkiognecebgaiaaGreatDoor.hp
open Go.RowKit rows heads words walks
set_option maxRecDepth 100000
def cmpI (x y:Int):Int:=if x<y then -1 else if y<x then 1 else 0
theorem isNaN_any (x:Int) (w:World):Calls Tryz.prog 161 #[.int .i64 x] w fun e w'=>e = .returned (.bool false)∧w'=w:=by
 have hx:(x != x)=false:=by simp
 go_enter Tryz.func161,Tryz.ntmps161
 go_wp2
 go_ret
 exact⟨by simp,rfl⟩
theorem compare_any (x y:Int) (w:World):Calls Tryz.prog 141 #[.int .i64 x,.int .i64 y] w fun e w'=>e = .returned (.int .i64 (cmpI x y))∧w'=w:=by
 generalize hc:cmpI x y=cc
 by_cases h1:x<y
 ·have EC:Hid (cc = -1):=by show _=_;rw[←hc];unfold cmpI;rw[if_pos h1]
  clear hc
  go_enter Tryz.func141,Tryz.ntmps141
  go_wp2_with (go_at_call 161;refine (isNaN_any _ _).mono ?_;rintro e w1 ⟨rfl,rfl⟩)
  go_ret
  exact⟨by rw[EC.out];rfl,rfl⟩
 ·by_cases h2:y<x
  ·have EC:Hid (cc=1):=by show _=_;rw[←hc];unfold cmpI;rw[if_neg h1,if_pos h2]
   clear hc
   go_enter Tryz.func141,Tryz.ntmps141
   go_wp2_with (go_at_call 161;refine (isNaN_any _ _).mono ?_;rintro e w1 ⟨rfl,rfl⟩)
   go_ret
   exact⟨by rw[EC.out];rfl,rfl⟩
  ·have EC:Hid (cc=0):=by show _=_;rw[←hc];unfold cmpI;rw[if_neg h1,if_neg h2]
   clear hc
   go_enter Tryz.func141,Tryz.ntmps141
   go_wp2_with (go_at_call 161;refine (isNaN_any _ _).mono ?_;rintro e w1 ⟨rfl,rfl⟩)
   go_ret
   exact⟨by rw[EC.out];rfl,rfl⟩
theorem mem_getDP {ds:List Pd} {k:Nat} (hk:k<ds.length):ds.getD k pdD ∈ ds:=by
 rw[List.getD_eq_getElem?_getD,List.getElem?_eq_getElem hk]
 exact List.getElem_mem hk
theorem atPl_any (m:Pd) (hs:∃a n c,m.u = .slice a n c) (id:Int) (w:World):Calls Tryz.prog 213 #[pdv m,.int .i64 id] w fun e w'=>e = .returned (.int .i64 (cmpI m.pl id))∧Below w.heap.size w w':=by
 obtain⟨s,f,c,h,p,mm,u,pl⟩:=m
 obtain⟨a,n,cp,hs⟩:=hs
 simp only at hs
 subst hs
 have B:Below w.heap.size w (w.alloc (pdb ⟨s,f,c,h,p,mm,.slice a n cp,pl⟩)):=(Below.refl _ w).alloc (Nat.le_refl _) _
 have HB:Hid _:=B
 clear B
 have C:=fun w=>compare_any pl id w
 generalize hc:cmpI pl id=cc at *
 clear hc
 go_enter Tryz.func213,Tryz.ntmps213
 go_wp2_with (go_at_call 141;refine (C _).mono ?_;rintro e w1 ⟨rfl,rfl⟩)
 go_ret
 exact⟨rfl,HB⟩
def EndsP (ms:List Pd) (id:Int) (i:Nat):Prop:=i≤ms.length∧(∀t,t<i→(ms.getD t pdD).pl<id)∧∀t,i≤t→t<ms.length→id≤(ms.getD t pdD).pl
def RiseP (ms:List Pd):Prop:=∀i j,i<j→j<ms.length→(ms.getD i pdD).pl<(ms.getD j pdD).pl
set_option maxHeartbeats 4000000 in
theorem binSearch_any {w:World} {v:Value} {ms:List Pd} (h:PdsAt w v ms) (hsl:SlicesP ms) (hr:RiseP ms) (hl:ms.length≤1048576) (id:Int) :
    Calls Tryz.prog 212 #[v,.int .i64 id,.func (.func 213) #[] #[]] w fun e w'=>∃i:Nat,EndsP ms id i∧e = .returned (.tuple #[.int .i64 i,.bool (decide (i<ms.length)&&decide ((ms.getD i pdD).pl=id))])∧Below w.heap.size w w':=by
 obtain⟨a,cap,rfl,hlc,hcm,_,hc⟩:=h
 have hcm':cap≤9223372036854775807:=hcm
 have HC:Hid _:=hc
 have HR:Hid _:=hr
 have HS:Hid _:=hsl
 clear hc hr hsl
 go_enter Tryz.func212,Tryz.ntmps212
 go_wp2_with fail
 go_loopw [9,10] (fun p q wr=>∃lo hi:Nat,p = .int .i64 lo∧q = .int .i64 hi∧lo≤hi∧hi≤ms.length∧(∀t,t<lo→(ms.getD t pdD).pl<id)∧(∀t,hi≤t→t<ms.length→id≤(ms.getD t pdD).pl)∧Below w.heap.size w wr) (fun p q _=>(intOf q).toNat-(intOf p).toNat)
 case atStart=>exact⟨0,ms.length,rfl,rfl,Nat.zero_le _,Nat.le_refl _,fun t ht=>by omega,fun t h1 h2=>by omega,Below.refl _ _⟩
 case round=>
  obtain⟨lo,hi,rfl,rfl,hlh,hhn,hlo,hhi,hB⟩:=hrel
  have HLO:Hid _:=hlo
  have HHI:Hid _:=hhi
  have HB:Hid _:=hB
  clear hlo hhi hB
  by_cases hlt:lo<hi
  ·have hm1:lo≤(lo+hi) / 2∧(lo+hi) / 2<hi:=by omega
   have ediv:((lo:Int)+(hi:Int)).fdiv (2 ^ min (Int.toNat 1) IntKind.u64.bits)=((lo:Int)+(hi:Int)) / 2:=by
    rw[show (2:Int) ^ min (Int.toNat 1) IntKind.u64.bits=2 by decide,Int.fdiv_eq_ediv_of_nonneg _ (by decide)]
   obtain⟨b,off,rfl,hb,hcc⟩:=HC.out (by omega)
   obtain⟨x0,x1,x2,x3,x4,x5,x6,x7⟩:=hcc ((lo+hi) / 2) (by omega)
   have c0:=(HB.out.cell (p:=⟨b,off+((lo+hi) / 2)*8,none⟩) hb).trans x0
   have c1:=(HB.out.cell (p:=⟨b,off+((lo+hi) / 2)*8+1,none⟩) hb).trans x1
   have c2:=(HB.out.cell (p:=⟨b,off+((lo+hi) / 2)*8+2,none⟩) hb).trans x2
   have c3:=(HB.out.cell (p:=⟨b,off+((lo+hi) / 2)*8+3,none⟩) hb).trans x3
   have c4:=(HB.out.cell (p:=⟨b,off+((lo+hi) / 2)*8+4,none⟩) hb).trans x4
   have c5:=(HB.out.cell (p:=⟨b,off+((lo+hi) / 2)*8+5,none⟩) hb).trans x5
   have c6:=(HB.out.cell (p:=⟨b,off+((lo+hi) / 2)*8+6,none⟩) hb).trans x6
   have c7:=(HB.out.cell (p:=⟨b,off+((lo+hi) / 2)*8+7,none⟩) hb).trans x7
   have A:=atPl_any (ms.getD ((lo+hi) / 2) pdD) (HS.out _ (mem_getDP (by omega))) id wr
   obtain⟨sa,sn,sc,hsv⟩:=HS.out _ (mem_getDP (show ((lo+hi) / 2)<ms.length by omega))
   have HUP:Hid ((ms.getD ((lo+hi) / 2) pdD).pl<id→∀t,t<((lo+hi) / 2)+1→(ms.getD t pdD).pl<id):=fun e t ht=>by
    by_cases e':t=((lo+hi) / 2)
    ·rw[e'];exact e
    ·have:=HR.out t ((lo+hi) / 2) (by omega) (by omega)
     omega
   have HDN:Hid (¬(ms.getD ((lo+hi) / 2) pdD).pl<id→∀t,((lo+hi) / 2)≤t→t<ms.length→id≤(ms.getD t pdD).pl):=fun e t h1 h2=>by
    by_cases e':t=((lo+hi) / 2)
    ·rw[e'];omega
    ·have:=HR.out ((lo+hi) / 2) t (by omega) h2
     omega
   clear hcc HC HS HR x0 x1 x2 x3 x4 x5 x6 x7
   generalize ms.getD ((lo+hi) / 2) pdD=x at *
   obtain⟨xs,xf,xc,xh,xp,xm,xv,xi⟩:=x
   simp only at hsv HUP HDN
   subst hsv
   simp only[pdv]at A
   have hcut:cmpI xi id<0↔xi<id:=by unfold cmpI;split<;>(try split)<;>omega
   have HB0:Hid _:=HB.out
   have szr:=HB.out.size
   by_cases hx:xi<id
   ·have hneg:=hcut.2 hx
    have HUP2:Hid _:=HUP.out hx
    generalize cmpI xi id=cc at *
    clear HUP HDN HLO hx hcut
    go_wp2_with (go_at_call 213;refine A.mono ?_;rintro e w1 ⟨rfl,b1⟩;have HB1:Hid _:=HB0.out.trans (b1.mono szr);clear b1 A HB0 HB)
    exact⟨⟨((lo+hi) / 2)+1,hi,by go_num,rfl,by omega,hhn,HUP2,HHI,HB1⟩,by simp[intOf];omega⟩
   ·have hneg:¬cmpI xi id<0:=fun e=>hx (hcut.1 e)
    have HDN2:Hid _:=HDN.out hx
    generalize cmpI xi id=cc at *
    clear HUP HDN HHI hx hcut
    go_wp2_with (go_at_call 213;refine A.mono ?_;rintro e w1 ⟨rfl,b1⟩;have HB1:Hid _:=HB0.out.trans (b1.mono szr);clear b1 A HB0 HB)
    exact⟨⟨lo,((lo+hi) / 2),rfl,by go_num,by omega,by omega,HLO,HDN2,HB1⟩,by simp[intOf];omega⟩
  ·have e:hi=lo:=by omega
   subst e
   have HE:Hid (EndsP ms id hi):=⟨hhn,HLO.out,HHI.out⟩
   clear HLO HHI HR
   by_cases hn:hi<ms.length
   ·obtain⟨b,off,rfl,hb,hcc⟩:=HC.out (by omega)
    obtain⟨x0,x1,x2,x3,x4,x5,x6,x7⟩:=hcc hi (by omega)
    have c0:=(HB.out.cell (p:=⟨b,off+hi*8,none⟩) hb).trans x0
    have c1:=(HB.out.cell (p:=⟨b,off+hi*8+1,none⟩) hb).trans x1
    have c2:=(HB.out.cell (p:=⟨b,off+hi*8+2,none⟩) hb).trans x2
    have c3:=(HB.out.cell (p:=⟨b,off+hi*8+3,none⟩) hb).trans x3
    have c4:=(HB.out.cell (p:=⟨b,off+hi*8+4,none⟩) hb).trans x4
    have c5:=(HB.out.cell (p:=⟨b,off+hi*8+5,none⟩) hb).trans x5
    have c6:=(HB.out.cell (p:=⟨b,off+hi*8+6,none⟩) hb).trans x6
    have c7:=(HB.out.cell (p:=⟨b,off+hi*8+7,none⟩) hb).trans x7
    have A:=atPl_any (ms.getD hi pdD) (HS.out _ (mem_getDP (by omega))) id wr
    obtain⟨sa,sn,sc,hsv⟩:=HS.out _ (mem_getDP (show hi<ms.length by omega))
    have szr:=HB.out.size
    obtain⟨bb,hbb⟩:∃bb,(decide (hi<ms.length)&&decide ((ms.getD hi pdD).pl=id))=bb:=⟨_,rfl⟩
    have HBB:Hid _:=hbb
    have HV:Hid (bb=(cmpI (ms.getD hi pdD).pl id==0)):=by
     show _=_
     rw[←hbb,Bool.eq_iff_iff]
     simp only[Bool.and_eq_true,decide_eq_true_eq,beq_iff_eq]
     unfold cmpI
     split<;>(try split)<;>omega
    clear hcc HC HS x0 x1 x2 x3 x4 x5 x6 x7 hbb
    generalize hxx:ms.getD hi pdD=x at *
    obtain⟨xs,xf,xc,xh,xp,xm,xv,xi⟩:=x
    simp only at hsv
    subst hsv
    simp only[pdv]at A
    simp only at HV
    have HXX:Hid _:=hxx
    clear hxx
    generalize cmpI xi id=cc at *
    cases hcc:(cc==0)
    ·rw[hcc]at HV
     go_wp2_with (go_at_call 213;refine A.mono ?_;rintro e w1 ⟨rfl,b1⟩;have HB1:Hid _:=HB.out.trans (b1.mono szr);clear b1 A)
     refine bodyPost_ret (v:=.tuple #[.int .i64 hi,.bool false]) (by simp[results,Tryz.results212,go_sem]) rfl ⟨hi,HE,by rw[HXX.out,HBB.out,HV.out],HB1⟩
    ·rw[hcc]at HV
     go_wp2_with (go_at_call 213;refine A.mono ?_;rintro e w1 ⟨rfl,b1⟩;have HB1:Hid _:=HB.out.trans (b1.mono szr);clear b1 A)
     refine bodyPost_ret (v:=.tuple #[.int .i64 hi,.bool true]) (by simp[results,Tryz.results212,go_sem]) rfl ⟨hi,HE,by rw[HXX.out,HBB.out,HV.out],HB1⟩
   ·have HV:Hid ((decide (hi<ms.length)&&decide ((ms.getD hi pdD).pl=id))=false):=by
      show _=_
      simp[hn]
    clear HC HS
    go_wp2
    refine bodyPost_ret (v:=.tuple #[.int .i64 hi,.bool false]) (by simp[results,Tryz.results212,go_sem]) rfl ⟨hi,HE,by rw[HV.out],HB⟩
end Go.Proofs.YtkiognecebgaiaaGreatDoor.hp
