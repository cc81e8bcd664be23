/-
  Chapter 9 as the program has it: chunks that may not stand in the room; words that are all 0. Chapter 9 as the program has it: the first free chunk; a chunk stored into a row.
-/
import Derived.Test.YtemlagfaaibenaaGreatM9
import Derived.Test.YtemlagfaaibenaaGreatM2
namespace Go.Proofs.YtemlagfaaibenaaGreat.hp
open Go.RowKit rows heads words walks
set_option maxRecDepth 100000
set_option linter.unusedVariables false
set_option linter.unusedSimpArgs false
theorem ints_cellI {w:World} {a:Option Addr} {n cap:Nat} {xs:List Int} (h:IntsAt w (.slice a n cap) xs) {k:Nat} (hk:k<xs.length):∃b off,a=some ⟨b,off,none⟩∧b<w.heap.size∧w.cell? ⟨b,off+k,none⟩=some (.int .i64 (xs.getD k 0)):=by
 obtain⟨a',c',e,_,_,_,hc⟩:=h
 injection e with e1 e2 e3
 subst e1
 obtain⟨b,off,rfl,hb,hcc⟩:=hc (by omega)
 exact⟨b,off,rfl,hb,hcc k hk⟩
def idxP (t:Pd→Bool) (ds:List Pd):Int:=match ds.findIdx? t with|some i=>(i:Int)|none => -1
theorem idxP_at {t:Pd→Bool} {ds:List Pd} {k:Nat} (hk:k<ds.length) (h:t (ds.getD k pdD)=true) (hn:∀m,m<k→t (ds.getD m pdD)=false):idxP t ds=k:=by
 unfold idxP
 have e:ds.findIdx? t=some k:=by
  rw[List.findIdx?_eq_some_iff_getElem]
  refine⟨hk,?_,fun j hj => ?_⟩
  ·rwa [List.getD_eq_getElem?_getD,List.getElem?_eq_getElem hk]at h
  ·have:=hn j hj
   rw[List.getD_eq_getElem?_getD,List.getElem?_eq_getElem (by omega)]at this
   simpa using this
 rw[e]
theorem idxP_no {t:Pd→Bool} {ds:List Pd} (hn:∀m,m<ds.length→t (ds.getD m pdD)=false):idxP t ds = -1:=by
 unfold idxP
 have e:ds.findIdx? t=none:=by
  rw[List.findIdx?_eq_none_iff]
  intro e he
  obtain⟨i,hi,rfl⟩:=List.getElem_of_mem he
  have:=hn i hi
  rw[List.getD_eq_getElem?_getD,List.getElem?_eq_getElem hi]at this
  simpa using this
 rw[e]
theorem idxP_any (t:Pd→Bool) (ds:List Pd):decide (idxP t ds ≥ 0)=ds.any t:=by
 unfold idxP
 cases e:ds.findIdx? t with
 |none=>
  rw[List.findIdx?_eq_none_iff]at e
  have:ds.any t=false:=by rw[List.any_eq_false];intro x hx;simp[e x hx]
  rw[this];decide
 |some i=>
  rw[List.findIdx?_eq_some_iff_getElem]at e
  obtain⟨hi,h1,_⟩:=e
  have:ds.any t=true:=by rw[List.any_eq_true];exact⟨_,List.getElem_mem hi,h1⟩
  rw[this]
  simp
def upOnly (d:Pd):Bool:=(d.f==6) || d.p
def freeP (d:Pd):Bool:=d.f==6
set_option maxHeartbeats 2000000 in
theorem isUp_any (d:Pd) {ua:Option Addr} {un uc:Nat} (hu:d.u = .slice ua un uc) (w:World) :
    Calls Tryz.prog 105 #[pdv d] w fun e w'=>e = .returned (.bool (upOnly d))∧Below w.heap.size w w':=by
 obtain⟨s,f,c,h,p,m,u,pl⟩:=d
 simp only at hu
 subst hu
 unfold upOnly
 have B0:Below w.heap.size w (w.alloc (pdb ⟨s,f,c,h,p,m,.slice ua un uc,pl⟩)):=(Below.refl _ _).alloc (Nat.le_refl _) _
 have IF:=isFree_any s f c h p m (.slice ua un uc) (w.alloc (pdb ⟨s,f,c,h,p,m,.slice ua un uc,pl⟩))
 have B1:Below w.heap.size w ((w.alloc (pdb ⟨s,f,c,h,p,m,.slice ua un uc,pl⟩)).alloc (cb s f c h p m (.slice ua un uc))):=B0.alloc (by simp) _
 have HB1:Hid _:=B1
 clear B0 B1
 cases e:(f==6)
 ·rw[e]at IF
  go_enter Tryz.func105,Tryz.ntmps105
  go_wp2_with (go_at_call 108;refine IF.mono ?_;clear IF;rintro e w3 ⟨rfl,hw3⟩;rw[hw3];clear hw3 w3)
  go_ret
  exact⟨rfl,HB1.out⟩
 ·rw[e]at IF
  go_enter Tryz.func105,Tryz.ntmps105
  go_wp2_with (go_at_call 108;refine IF.mono ?_;clear IF;rintro e w3 ⟨rfl,hw3⟩;rw[hw3];clear hw3 w3)
  go_ret
  exact⟨rfl,HB1.out⟩
set_option maxHeartbeats 8000000 in
theorem indexUp_any {w:World} {v:Value} {ds:List Pd} (h:PdsAt w v ds) (hs:SlicesP ds) (hl:ds.length≤1048576) :
    Calls Tryz.prog 101 #[v,.func (.func 105) #[] #[]] w fun e w'=>e = .returned (.int .i64 (idxP upOnly ds))∧Below w.heap.size w w':=by
 have HP:Hid _:=h
 obtain⟨a,cap,rfl⟩:=pds_slice h
 obtain⟨_,hlc,hcm⟩:=pds_cap h
 obtain⟨R,hR⟩:∃R,idxP upOnly ds=R:=⟨_,rfl⟩
 rw[hR]
 have HR:Hid _:=hR
 have HS:Hid _:=hs
 clear hR h hs
 go_enter Tryz.func101,Tryz.ntmps101
 go_wp2_with fail
 go_loopw [8] (fun q wr=>∃k:Nat,k≤ds.length∧q = .int .i64 (k:Int)∧(∀m,m<k→upOnly (ds.getD m pdD)=false)∧Below w.heap.size w wr) (fun q _=>ds.length-(intOf q).toNat)
 case atStart=>exact⟨0,Nat.zero_le _,rfl,fun m hm=>by omega,Below.refl _ _⟩
 case round=>
  obtain⟨k,hk,rfl,hne,Br⟩:=hrel
  have HNE:Hid _:=hne
  have HB:Hid _:=Br
  clear hne Br
  by_cases hlt:k<ds.length
  ·obtain⟨b,off,ea,hbl,k0,k1,k2,k3,k4,k5,k6,k7⟩:=pds_cell (pdsAt_below HP.out HB.out) hlt
   subst ea
   obtain⟨ua,un,uc,hu⟩:=HS.out (ds.getD k pdD) (by rw[List.getD_eq_getElem?_getD,List.getElem?_eq_getElem hlt];exact List.getElem_mem hlt)
   obtain⟨x,hx⟩:∃x,ds.getD k pdD=x:=⟨_,rfl⟩
   have HF1:Hid (upOnly x=false→∀m,m<k+1→upOnly (ds.getD m pdD)=false):=fun e m hm=>by
    by_cases e':m=k
    ·rw[e',hx];exact e
    ·exact HNE.out m (by omega)
   have HF2:Hid (upOnly x=true→R=k):=fun e=>HR.out.symm.trans (idxP_at hlt (by rw[hx];exact e) HNE.out)
   rw[hx]at k0 k1 k2 k3 k4 k5 k6 k7 hu
   clear HNE HR hx
   obtain⟨s',f',c',h',p',m',u',pl'⟩:=x
   simp only at k0 k1 k2 k3 k4 k5 k6 k7 hu
   subst hu
   have IS:=isUp_any (⟨s',f',c',h',p',m',.slice ua un uc,pl'⟩:Pd) (ua:=ua) (un:=un) (uc:=uc) rfl wr
   obtain⟨tb,htb⟩:∃tb,upOnly (⟨s',f',c',h',p',m',.slice ua un uc,pl'⟩:Pd)=tb:=⟨_,rfl⟩
   rw[htb]at IS HF1 HF2
   clear htb
   cases tb with
   |true=>
    have HF3:Hid _:=HF2.out rfl
    clear HF1 HF2
    go_wp2_with (go_at_call 105;refine IS.mono ?_;clear IS;rintro e w3 ⟨rfl,b3⟩;have HB3:Hid _:=HB.out.trans (b3.mono HB.out.size);clear b3)
    go_ret
    exact⟨by rw[HF3.out];rfl,HB3⟩
   |false=>
    have HF3:Hid _:=HF1.out rfl
    clear HF1 HF2
    go_wp2_with (go_at_call 105;refine IS.mono ?_;clear IS;rintro e w3 ⟨rfl,b3⟩;have HB3:Hid _:=HB.out.trans (b3.mono HB.out.size);clear b3)
    exact⟨⟨k+1,by omega,by go_num,HF3,HB3⟩,by simp[intOf];omega⟩
  ·have HF3:Hid (R = -1):=HR.out.symm.trans (idxP_no (fun m hm=>HNE.out m (by omega)))
   clear HNE HR
   go_wp2
   go_ret
   exact⟨by rw[HF3.out];rfl,HB⟩
theorem containsUp_any {w:World} {v:Value} {ds:List Pd} (h:PdsAt w v ds) (hs:SlicesP ds) (hl:ds.length≤1048576) :
    Calls Tryz.prog 67 #[v,.func (.func 105) #[] #[]] w fun e w'=>e = .returned (.bool (ds.any upOnly))∧Below w.heap.size w w':=by
 have IX:=indexUp_any h hs hl
 obtain⟨a,cap,rfl⟩:=pds_slice h
 rw[←idxP_any]
 generalize idxP upOnly ds=R at *
 clear h hs
 go_enter Tryz.func67,Tryz.ntmps67
 go_wp2_with (go_at_call 101;refine IX.mono ?_;clear IX;rintro e w3 ⟨rfl,b3⟩;have HB3:Hid _:=b3;clear b3)
 go_ret
 exact⟨rfl,HB3.out⟩
set_option maxHeartbeats 2000000 in
theorem allZero_any {w:World} {v:Value} {xs:List Int} (h:IntsAt w v xs) (hl:xs.length≤1048576) :
    Calls Tryz.prog 106 #[v] w fun e w'=>e = .returned (.bool (xs.all (· == 0)))∧w'=w:=by
 have HI:Hid _:=h
 obtain⟨a,cap,rfl,hlc,hcm,_,hc⟩:=h
 obtain⟨R,hR⟩:∃R,xs.all (· == 0)=R:=⟨_,rfl⟩
 rw[hR]
 have HR:Hid _:=hR
 clear hR hc
 go_enter Tryz.func106,Tryz.ntmps106
 go_wp2_with fail
 go_loopw [7] (fun q wr=>∃k:Nat,k≤xs.length∧q = .int .i64 (k:Int)∧(∀m,m<k→(xs.getD m 0==0)=true)∧wr=w) (fun q _=>xs.length-(intOf q).toNat)
 case atStart=>exact⟨0,Nat.zero_le _,rfl,fun m hm=>by omega,rfl⟩
 case round=>
  obtain⟨k,hk,rfl,hall,hw⟩:=hrel
  subst hw
  by_cases hlt:k<xs.length
  ·obtain⟨b,off,ea,_,x0⟩:=ints_cellI HI.out hlt
   subst ea
   obtain⟨y,hy⟩:∃y,xs.getD k 0=y:=⟨_,rfl⟩
   rw[hy]at x0
   have HF:Hid ((y==0)=false→R=false):=fun e=>by
    rw[←HR.out,List.all_eq_false]
    refine⟨y,?_,by rw[e];decide⟩
    rw[←hy,List.getD_eq_getElem?_getD,List.getElem?_eq_getElem hlt];exact List.getElem_mem hlt
   have HV:Hid ((y==0)=true→∀m,m<k+1→(xs.getD m 0==0)=true):=fun e m hm=>by
    by_cases e':m=k
    ·rw[e',hy];exact e
    ·exact hall m (by omega)
   clear hall hy HR
   cases dy:(y==0)
   ·have HF2:Hid _:=HF.out dy
    have d2:(y != 0)=true:=by simp[bne,dy]
    clear HF HV dy
    go_wp2
    go_ret
    exact⟨by rw[HF2.out];rfl,rfl⟩
   ·have HV2:Hid _:=HV.out dy
    have d2:(y != 0)=false:=by simp[bne,dy]
    clear HF HV dy
    go_wp2
    exact⟨⟨k+1,by omega,by go_num,HV2,by trivial⟩,by simp[intOf];omega⟩
  ·have HF2:Hid (R=true):=by
     show R=true
     rw[←HR.out,List.all_eq_true]
     intro x hx
     obtain⟨i,hi,rfl⟩:=List.getElem_of_mem hx
     have:=hall i (by omega)
     rwa [List.getD_eq_getElem?_getD,List.getElem?_eq_getElem hi]at this
   clear hall HR
   go_wp2
   go_ret
   exact⟨by rw[HF2.out];rfl,rfl⟩
theorem meth_free (s f c h:Int) (p m:Bool) (ua:Option Addr) (un uc:Nat) (pl:Int) (w:World):(method 269 46 (pdv ⟨s,f,c,h,p,m,.slice ua un uc,pl⟩) "loop.example/g00337/impl.isFree").run Tryz.prog w = .ok (108,cv s f c h p m (.slice ua un uc)) w:=rfl
theorem cellsP_set:∀(ds:List Pd) (i:Nat) (d:Pd),(((((((((cellsP ds).set (i*8) (.int .i64 d.s)).set (i*8+1) (.int .i64 d.f)).set (i*8+2) (.int .i64 d.c)).set (i*8+3) (.int .i64 d.h)).set (i*8+4) (.bool d.p)).set (i*8+5) (.bool d.m)).set (i*8+6) d.u).set (i*8+7) (.int .i64 d.pl))=cellsP (ds.set i d)
 | [],i,d=>by simp[cellsP]
 |e :: ds,0,d=>by simp[cellsP]
 |e :: ds,i+1,d=>by
  rw[show (i+1)*8=i*8+1+1+1+1+1+1+1+1 by omega]
  simp[cellsP,←cellsP_set ds i d]
theorem isFreeP_any (d:Pd) {ua:Option Addr} {un uc:Nat} (hu:d.u = .slice ua un uc) (w:World) :
    Calls Tryz.prog 108 #[cv d.s d.f d.c d.h d.p d.m d.u] w fun e w'=>e = .returned (.bool (freeP d))∧Below w.heap.size w w':=
 (isFree_any d.s d.f d.c d.h d.p d.m d.u w).mono fun e w' ⟨he,hw⟩=>⟨he,by rw[hw];exact (Below.refl _ _).alloc (Nat.le_refl _) _⟩
set_option maxHeartbeats 8000000 in
theorem indexFree_any {w:World} {v:Value} {ds:List Pd} (h:PdsAt w v ds) (hs:SlicesP ds) (hl:ds.length≤1048576) :
    Calls Tryz.prog 101 #[v,.func (.methodOf 46 "loop.example/g00337/impl.isFree") #[] #[]] w fun e w'=>e = .returned (.int .i64 (idxP freeP ds))∧Below w.heap.size w w':=by
 have HP:Hid _:=h
 obtain⟨a,cap,rfl⟩:=pds_slice h
 obtain⟨_,hlc,hcm⟩:=pds_cap h
 obtain⟨R,hR⟩:∃R,idxP freeP ds=R:=⟨_,rfl⟩
 rw[hR]
 have HR:Hid _:=hR
 have HS:Hid _:=hs
 clear hR h hs
 go_enter Tryz.func101,Tryz.ntmps101
 go_wp2_with fail
 go_loopw [8] (fun q wr=>∃k:Nat,k≤ds.length∧q = .int .i64 (k:Int)∧(∀m,m<k→freeP (ds.getD m pdD)=false)∧Below w.heap.size w wr) (fun q _=>ds.length-(intOf q).toNat)
 case atStart=>exact⟨0,Nat.zero_le _,rfl,fun m hm=>by omega,Below.refl _ _⟩
 case round=>
  obtain⟨k,hk,rfl,hne,Br⟩:=hrel
  have HNE:Hid _:=hne
  have HB:Hid _:=Br
  clear hne Br
  by_cases hlt:k<ds.length
  ·obtain⟨b,off,ea,hbl,k0,k1,k2,k3,k4,k5,k6,k7⟩:=pds_cell (pdsAt_below HP.out HB.out) hlt
   subst ea
   obtain⟨ua,un,uc,hu⟩:=HS.out (ds.getD k pdD) (by rw[List.getD_eq_getElem?_getD,List.getElem?_eq_getElem hlt];exact List.getElem_mem hlt)
   obtain⟨x,hx⟩:∃x,ds.getD k pdD=x:=⟨_,rfl⟩
   have HF1:Hid (freeP x=false→∀m,m<k+1→freeP (ds.getD m pdD)=false):=fun e m hm=>by
    by_cases e':m=k
    ·rw[e',hx];exact e
    ·exact HNE.out m (by omega)
   have HF2:Hid (freeP x=true→R=k):=fun e=>HR.out.symm.trans (idxP_at hlt (by rw[hx];exact e) HNE.out)
   rw[hx]at k0 k1 k2 k3 k4 k5 k6 k7 hu
   clear HNE HR hx
   obtain⟨s',f',c',h',p',m',u',pl'⟩:=x
   simp only at k0 k1 k2 k3 k4 k5 k6 k7 hu
   subst hu
   have IS:=isFreeP_any (⟨s',f',c',h',p',m',.slice ua un uc,pl'⟩:Pd) (ua:=ua) (un:=un) (uc:=uc) rfl wr
   have MF:=meth_free s' f' c' h' p' m' ua un uc pl' wr
   obtain⟨tb,htb⟩:∃tb,freeP (⟨s',f',c',h',p',m',.slice ua un uc,pl'⟩:Pd)=tb:=⟨_,rfl⟩
   rw[htb]at IS HF1 HF2
   clear htb
   cases tb with
   |true=>
    have HF3:Hid _:=HF2.out rfl
    clear HF1 HF2
    go_wp2_with (go_at_call 108;refine IS.mono ?_;clear IS;rintro e w3 ⟨rfl,b3⟩;have HB3:Hid _:=HB.out.trans (b3.mono HB.out.size);clear b3)
    go_ret
    exact⟨by rw[HF3.out];rfl,HB3⟩
   |false=>
    have HF3:Hid _:=HF1.out rfl
    clear HF1 HF2
    go_wp2_with (go_at_call 108;refine IS.mono ?_;clear IS;rintro e w3 ⟨rfl,b3⟩;have HB3:Hid _:=HB.out.trans (b3.mono HB.out.size);clear b3)
    exact⟨⟨k+1,by omega,by go_num,HF3,HB3⟩,by simp[intOf];omega⟩
  ·have HF3:Hid (R = -1):=HR.out.symm.trans (idxP_no (fun m hm=>HNE.out m (by omega)))
   clear HNE HR
   go_wp2
   go_ret
   exact⟨by rw[HF3.out];rfl,HB⟩
end Go.Proofs.YtemlagfaaibenaaGreat.hp
