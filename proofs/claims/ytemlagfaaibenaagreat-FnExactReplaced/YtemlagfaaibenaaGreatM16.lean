/-
  Chapter 9 as the program has it: whether a word leads into the room, whether a chunk has one that does. Chapter 9 as the program has it: whether a chunk sees the room, and what Seen must be. Chapter 9 as the program has it: two lists alike, words that all lead somewhere. Chapter 9 as the program has
-/
import Derived.Test.YtemlagfaaibenaaGreatM15
namespace Go.Proofs.YtemlagfaaibenaaGreat.hp
open Go.RowKit rows heads words walks
set_option maxRecDepth 100000
set_option linter.unusedVariables false
set_option linter.unusedSimpArgs false
def yngW (up:Int) (x:Int):Bool:=isA x&&decide (av x<up)
theorem isYoung_any (up:Int) (a:Option Addr) (n c:Nat) (x:Int) (w:World) (b1 : -9223372036854775808≤x) (b2:x≤9223372036854775807) :
    Calls Tryz.prog 121 #[rmv up (.slice a n c),.int .i64 x] w fun e w'=>e = .returned (.bool (yngW up x))∧Below w.heap.size w w':=by
 have B0:Below w.heap.size w (w.alloc (rmb up (.slice a n c))):=(Below.refl _ _).alloc (Nat.le_refl _) _
 have HB0:Hid _:=B0
 have AO:=addrOf_any x (w.alloc (rmb up (.slice a n c))) b1 b2
 obtain⟨⟨k0,k1⟩,_⟩:=rmb_cells (heap_alloc_new w (rmb up (.slice a n c)))
 unfold yngW
 cases hA:isA x
 ·rw[hA]at AO
  generalize av x=ax at *
  clear B0 hA b1 b2
  go_enter Tryz.func121,Tryz.ntmps121
  go_upto_region 1 with fail
  generalize w.alloc (rmb up (.slice a n c))=X at *
  go_wp2_with (go_at_call 122;refine AO.mono ?_;clear AO;rintro e w3 ⟨rfl,hw3⟩;rw[hw3];clear hw3 w3)
  go_ret
  exact⟨rfl,HB0.out⟩
 ·rw[hA]at AO
  generalize av x=ax at *
  clear B0 hA b1 b2
  go_enter Tryz.func121,Tryz.ntmps121
  go_upto_region 1 with fail
  generalize w.alloc (rmb up (.slice a n c))=X at *
  go_wp2_with (go_at_call 122;refine AO.mono ?_;clear AO;rintro e w3 ⟨rfl,hw3⟩;rw[hw3];clear hw3 w3)
  go_ret
  exact⟨rfl,HB0.out⟩
def idxY (up:Int) (xs:List Int):Int:=match xs.findIdx? (yngW up) with|some i=>(i:Int)|none => -1
theorem idxY_at {up:Int} {xs:List Int} {k:Nat} (hk:k<xs.length) (h:yngW up (xs.getD k 0)=true) (hn:∀m,m<k→yngW up (xs.getD m 0)=false):idxY up xs=k:=by
 unfold idxY
 have e:xs.findIdx? (yngW up)=some k:=by
  rw[List.findIdx?_eq_some_iff_getElem]
  refine⟨hk,?_,fun j hj => ?_⟩
  ·simpa [List.getD_eq_getElem?_getD,List.getElem?_eq_getElem hk] using h
  ·have:=hn j hj
   simpa [List.getD_eq_getElem?_getD,List.getElem?_eq_getElem (show j<xs.length by omega)] using this
 rw[e]
theorem idxY_no {up:Int} {xs:List Int} (hn:∀m,m<xs.length→yngW up (xs.getD m 0)=false):idxY up xs = -1:=by
 unfold idxY
 have e:xs.findIdx? (yngW up)=none:=by
  rw[List.findIdx?_eq_none_iff]
  intro x hx
  obtain⟨m,hm,rfl⟩:=List.getElem_of_mem hx
  have:=hn m hm
  simpa [List.getD_eq_getElem?_getD,List.getElem?_eq_getElem hm] using this
 rw[e]
theorem idxY_any (up:Int) (xs:List Int):decide (idxY up xs ≥ 0)=xs.any (yngW up):=by
 unfold idxY
 cases e:xs.findIdx? (yngW up) with
 |none=>
  rw[List.findIdx?_eq_none_iff]at e
  have:xs.any (yngW up)=false:=by
   rw[List.any_eq_false]
   intro x hx h
   rw[e x hx]at h;cases h
  rw[this];decide
 |some i=>
  rw[List.findIdx?_eq_some_iff_getElem]at e
  obtain⟨hi,ht,_⟩:=e
  have:xs.any (yngW up)=true:=by
   rw[List.any_eq_true]
   exact⟨_,List.getElem_mem hi,ht⟩
  rw[this];simp
set_option maxHeartbeats 4000000 in
theorem indexYoung_any {w:World} {up:Int} {a:Option Addr} {n c:Nat} {u:Value} {xs:List Int} (h:IntsAt w u xs) (hl:xs.length≤1048576) (ha:AllI xs) :
    Calls Tryz.prog 98 #[u,.func (.func 121) #[rmv up (.slice a n c)] #[]] w fun e w'=>e = .returned (.int .i64 (idxY up xs))∧Below w.heap.size w w':=by
 have HI:Hid _:=h
 have HA:Hid _:=ha
 obtain⟨a2,cap2,rfl,_,_,_,_⟩:=h
 obtain⟨R,hR⟩:∃R,idxY up xs=R:=⟨_,rfl⟩
 rw[hR]
 have HR:Hid _:=hR
 clear hR ha
 go_enter Tryz.func98,Tryz.ntmps98
 go_wp2_with fail
 go_loopw [5,8] (fun _ q wr=>∃k:Nat,k≤xs.length∧q = .int .i64 (k:Int)∧(∀m,m<k→yngW up (xs.getD m 0)=false)∧Below w.heap.size w wr) (fun _ q _=>xs.length-(intOf q).toNat)
 case atStart=>exact⟨0,Nat.zero_le _,rfl,fun m hm=>by omega,Below.refl _ _⟩
 case round=>
  obtain⟨k,hk,rfl,hne,hB⟩:=hrel
  have HNE:Hid _:=hne
  have HB:Hid _:=hB
  by_cases hlt:k<xs.length
  ·obtain⟨b,off,ea,_,x0⟩:=ints_cellI (intsAt_below HI.out hB) hlt
   subst ea
   obtain⟨y,hy⟩:∃y,xs.getD k 0=y:=⟨_,rfl⟩
   have hyb:=HA.out y (by rw[←hy,List.getD_eq_getElem?_getD,List.getElem?_eq_getElem hlt];exact List.getElem_mem hlt)
   have CY:=isYoung_any up a n c y wr hyb.1 hyb.2
   have HF1:Hid (yngW up y=false→∀m,m<k+1→yngW up (xs.getD m 0)=false):=fun e m hm=>by
    by_cases e':m=k
    ·rw[e',hy];exact e
    ·exact HNE.out m (by omega)
   have HF2:Hid (yngW up y=true→R=k):=fun e=>HR.out.symm.trans (idxY_at hlt (by rw[hy];exact e) HNE.out)
   rw[hy]at x0
   have hlt':(k:Int)<(xs.length:Int):=by omega
   clear hne hB hyb hy
   cases hw:yngW up y
   ·rw[hw]at CY
    have HV:Hid _:=HF1.out hw
    clear hw HF1 HF2
    go_wp2_with (go_at_call 121;refine CY.mono ?_;clear CY;rintro e w3 ⟨rfl,b3⟩;have HB3:Hid _:=HB.out.trans (b3.mono HB.out.size);clear b3)
    exact⟨⟨k+1,by omega,by go_num,HV.out,HB3.out⟩,by simp[intOf];omega⟩
   ·rw[hw]at CY
    have HV:Hid _:=HF2.out hw
    clear hw HF1 HF2
    go_wp2_with (go_at_call 121;refine CY.mono ?_;clear CY;rintro e w3 ⟨rfl,b3⟩;have HB3:Hid _:=HB.out.trans (b3.mono HB.out.size);clear b3)
    go_ret
    exact⟨by rw[HV.out];rfl,HB3.out⟩
  ·have hlt':¬(k:Int)<(xs.length:Int):=by omega
   have HF:Hid (R = -1):=by show _=_;rw[←HR.out];exact idxY_no (fun m hm=>hne m (by omega))
   clear hne hB
   go_wp2
   go_ret
   exact⟨by rw[HF.out];rfl,HB.out⟩
theorem containsYoung_any {w:World} {up:Int} {a:Option Addr} {n c:Nat} {u:Value} {xs:List Int} (h:IntsAt w u xs) (hl:xs.length≤1048576) (ha:AllI xs) :
    Calls Tryz.prog 64 #[u,.func (.func 121) #[rmv up (.slice a n c)] #[]] w fun e w'=>e = .returned (.bool (xs.any (yngW up)))∧Below w.heap.size w w':=by
 have IX:=indexYoung_any (up:=up) (a:=a) (n:=n) (c:=c) h hl ha
 obtain⟨a2,cap2,rfl,_,_,_,_⟩:=h
 rw[←idxY_any]
 generalize idxY up xs=R at *
 clear ha
 go_enter Tryz.func64,Tryz.ntmps64
 go_wp2_with (go_at_call 98;refine IX.mono ?_;clear IX;rintro e w3 ⟨rfl,b3⟩;have HB3:Hid _:=b3;clear b3)
 go_ret
 exact⟨rfl,HB3.out⟩
set_option maxHeartbeats 8000000 in
theorem seesYoung_any {w:World} {up:Int} {a:Option Addr} {n c:Nat} {d:Pd} {xs:List Int} (hu:∃a n c,d.u = .slice a n c) (hl:xs.length≤1048576) (ha:AllI xs)
    (hS:∀V,Below w.heap.size w V→Calls Tryz.prog 63 #[cv d.s d.f d.c d.h d.p d.m d.u] V fun e w'=>∃ua un uc,e = .returned (.slice ua un uc)∧IntsAt w' (.slice ua un uc) xs∧Below V.heap.size V w') :
    Calls Tryz.prog 97 #[rmv up (.slice a n c),pdv d] w fun e w'=>e = .returned (.bool (xs.any (yngW up)))∧Below w.heap.size w w':=by
 obtain⟨ds',df,dc,dh,dp,dm,du,dl⟩:=d
 obtain⟨sa,sn,sc,hsv⟩:=hu
 simp only at hsv hS
 subst hsv
 obtain⟨P,hP⟩:∃P,xs.any (yngW up)=P:=⟨_,rfl⟩
 have B0:Below w.heap.size w (w.alloc (rmb up (.slice a n c))):=(Below.refl _ _).alloc (Nat.le_refl _) _
 have B1:=B0.alloc B0.size (pdb ⟨ds',df,dc,dh,dp,dm,.slice sa sn sc,dl⟩)
 have HALL:Hid (∀V,Below ((w.alloc (rmb up (.slice a n c))).alloc (pdb ⟨ds',df,dc,dh,dp,dm,.slice sa sn sc,dl⟩)).heap.size ((w.alloc (rmb up (.slice a n c))).alloc (pdb ⟨ds',df,dc,dh,dp,dm,.slice sa sn sc,dl⟩)) V→(V.cell? ⟨w.heap.size,0,none⟩=some (.int .i64 up)∧V.cell? ⟨w.heap.size,1,none⟩=some (.slice a n c))∧V.heap[w.heap.size+1]? = some (pdb ⟨ds',df,dc,dh,dp,dm,.slice sa sn sc,dl⟩)∧Below w.heap.size w V):=by
  intro V hV
  have T1:=heap_alloc_new (w.alloc (rmb up (.slice a n c))) (pdb ⟨ds',df,dc,dh,dp,dm,.slice sa sn sc,dl⟩)
  have T2:Below (w.heap.size+1) (w.alloc (rmb up (.slice a n c))) V:=((Below.refl _ _).alloc (by simp) _).trans (hV.mono (by simp))
  have q0:V.heap[w.heap.size]? = some (rmb up (.slice a n c)):=(T2.block _ (by omega)).trans (heap_alloc_new w _)
  have q1:V.heap[w.heap.size+1]? = some (pdb ⟨ds',df,dc,dh,dp,dm,.slice sa sn sc,dl⟩):=(hV.block (w.heap.size+1) (by simp)).trans ((congrArg (fun k=>((w.alloc (rmb up (.slice a n c))).alloc (pdb ⟨ds',df,dc,dh,dp,dm,.slice sa sn sc,dl⟩)).heap[k]?) (show w.heap.size+1=(w.alloc (rmb up (.slice a n c))).heap.size by simp)).trans T1)
  exact⟨(rmb_cells q0).1,q1,B1.trans (hV.mono B1.size)⟩
 have HC:Hid (∀V u,IntsAt V u xs→Calls Tryz.prog 64 #[u,.func (.func 121) #[rmv up (.slice a n c)] #[]] V fun e w'=>e = .returned (.bool P)∧Below V.heap.size V w'):=fun V u hI=>by
  have:=containsYoung_any (up:=up) (a:=a) (n:=n) (c:=c) hI hl ha
  rwa [hP]at this
 have HSC:Hid _:=hS
 rw[hP]
 clear hS B0 B1 hP ha
 go_enter Tryz.func97,Tryz.ntmps97
 go_upto_region 1 with fail
 generalize (w.alloc _).alloc _=X at *
 obtain⟨⟨z0,z1⟩,q1,bX⟩:=HALL.out X (Below.refl _ _)
 obtain⟨⟨p0,p1,p2,p3,p4,p5,p6,p7⟩,_⟩:=pdb_cells q1
 simp only at p0 p1 p2 p3 p4 p5 p6 p7
 clear q1 bX
 have HG:Hid (∀(V w':World),Below V.heap.size V w'→Below X.heap.size X V→(w'.cell? ⟨w.heap.size,0,none⟩=some (.int .i64 up)∧w'.cell? ⟨w.heap.size,1,none⟩=some (.slice a n c))∧Below w.heap.size w w'):=by
  intro V w' h1 h2
  have hX:Below X.heap.size X w':=h2.trans (h1.mono h2.size)
  obtain⟨hz,_,hw⟩:=HALL.out w' hX
  exact⟨hz,hw⟩
 have HGB:Hid (∀V,Below X.heap.size X V→Below w.heap.size w V):=fun V hV=>(HG.out X V hV (Below.refl _ _)).2
 clear HALL
 go_region_law (first
  |(go_simp;go_at_call 63;refine Calls.mono (HSC.out _ (HGB.out _ ⟨rfl,rfl,rfl,Nat.le_refl _,fun _ _=>rfl⟩)) ?_;rintro e w5 ⟨ua,un,uc,rfl,i5,b5⟩;obtain⟨⟨t0,t1⟩,y5⟩:=HG.out _ _ b5 ⟨rfl,rfl,rfl,Nat.le_refl _,fun _ _=>rfl⟩;have HI5:Hid _:=i5;have HW5:Hid _:=y5;clear HSC i5 y5 b5 HG HGB)
  |(go_simp;go_at_call 64;refine Calls.mono (HC.out _ _ HI5.out) ?_;rintro e w6 ⟨rfl,b6⟩;have HX6:Hid (Below w.heap.size w w6):=HW5.out.trans ((⟨b6.os,b6.tape,b6.output,b6.size,b6.block⟩:Below w5.heap.size w5 w6).mono HW5.out.size);clear HC b6))
 all_goals go_wp2
 all_goals go_ret
 all_goals exact⟨rfl,HX6.out⟩
theorem same_lists {xs ys:List Int} (hl:xs.length=ys.length) (h:∀m,m<xs.length→xs.getD m 0=ys.getD m 0):xs=ys:=by
 refine List.ext_getElem hl fun i h1 h2 => ?_
 have:=h i h1
 simpa [List.getD_eq_getElem?_getD,List.getElem?_eq_getElem h1,List.getElem?_eq_getElem h2] using this
set_option maxHeartbeats 4000000 in
theorem equal_any {w:World} {u v:Value} {xs ys:List Int} (h1:IntsAt w u xs) (h2:IntsAt w v ys) (l1:xs.length≤1048576) (l2:ys.length≤1048576) :
    Calls Tryz.prog 59 #[u,v] w fun e w'=>e = .returned (.bool (decide (xs=ys)))∧Below w.heap.size w w':=by
 have H1:Hid _:=h1
 have H2:Hid _:=h2
 obtain⟨a1,c1,rfl,_,_,_,_⟩:=h1
 obtain⟨a2,c2,rfl,_,_,_,_⟩:=h2
 obtain⟨R,hR⟩:∃R,decide (xs=ys)=R:=⟨_,rfl⟩
 rw[hR]
 have HR:Hid _:=hR
 clear hR
 by_cases hl:xs.length=ys.length
 ·have HLN:Hid _:=hl
  have hle:(((xs.length:Int) != (ys.length:Int)))=false:=by simp[hl]
  have hle2:((xs.length:Int)==(ys.length:Int))=true:=by simp[hl]
  clear hl
  go_enter Tryz.func59,Tryz.ntmps59
  go_wp2_with fail
  go_loopw [5,13] (fun _ q wr=>∃k:Nat,k≤xs.length∧q = .int .i64 (k:Int)∧(∀m,m<k→xs.getD m 0=ys.getD m 0)∧Below w.heap.size w wr) (fun _ q _=>xs.length-(intOf q).toNat)
  case atStart=>exact⟨0,Nat.zero_le _,rfl,fun m hm=>by omega,Below.refl _ _⟩
  case round=>
   obtain⟨k,hk,rfl,hall,hB⟩:=hrel
   have HB:Hid _:=hB
   have HAL:Hid _:=hall
   by_cases hlt:k<xs.length
   ·have hlt2:k<ys.length:=by have:=HLN.out;omega
    obtain⟨b,off,ea,_,x0⟩:=ints_cellI (intsAt_below H1.out hB) hlt
    subst ea
    obtain⟨b',off',ea,_,y0⟩:=ints_cellI (intsAt_below H2.out hB) hlt2
    subst ea
    have hlt':(k:Int)<(xs.length:Int):=by omega
    have hlt2':(k:Int)<(ys.length:Int):=by omega
    obtain⟨x,hx⟩:∃x,xs.getD k 0=x:=⟨_,rfl⟩
    obtain⟨y,hy⟩:∃y,ys.getD k 0=y:=⟨_,rfl⟩
    rw[hx]at x0
    rw[hy]at y0
    have HF:Hid (¬x=y→R=false):=fun e=>by
     rw[←HR.out,decide_eq_false_iff_not]
     rintro rfl
     exact e (hx.symm.trans hy)
    have HV:Hid (x=y→∀m,m<k+1→xs.getD m 0=ys.getD m 0):=fun e m hm=>by
     by_cases e':m=k
     ·rw[e',hx,hy];exact e
     ·exact HAL.out m (by omega)
    clear hall hB hx hy
    by_cases hxy:x=y
    ·have HV0:Hid _:=HV.out hxy
     have e1:(x != y)=false:=by simp[hxy]
     have e2:(x==y)=true:=by simp[hxy]
     clear HV HF hxy
     go_upto_region 6 with fail
     go_quiet (fail)
     have HBD:Hid (Below w.heap.size w (wr.drewN nq)):=HB.out.trans ((bel_of_drewN ⟨_,rfl⟩:Below wr.heap.size wr (wr.drewN nq)).mono HB.out.size)
     clear x0 y0
     generalize wr.drewN nq=Z at *
     go_wp2
     exact⟨⟨k+1,by omega,by go_num,HV0.out,HBD.out⟩,by simp[intOf];omega⟩
    ·have HF0:Hid _:=HF.out hxy
     have e1:(x != y)=true:=by simp[hxy]
     have e2:(x==y)=false:=by simp[hxy]
     clear HV HF hxy
     go_upto_region 6 with fail
     go_quiet (fail)
     have HBD:Hid (Below w.heap.size w (wr.drewN nq)):=HB.out.trans ((bel_of_drewN ⟨_,rfl⟩:Below wr.heap.size wr (wr.drewN nq)).mono HB.out.size)
     clear x0 y0
     generalize wr.drewN nq=Z at *
     go_wp2
     go_ret
     exact⟨by rw[HF0.out];rfl,HBD.out⟩
   ·have hlt':¬(k:Int)<(xs.length:Int):=by omega
    have HF:Hid (R=true):=by show _=_;rw[←HR.out,decide_eq_true_eq];exact same_lists HLN.out (fun m hm=>hall m (by omega))
    clear hall hB
    go_wp2
    go_ret
    exact⟨by rw[HF.out];rfl,HB.out⟩
 ·have HF:Hid (R=false):=by
    show _=_
    rw[←HR.out,decide_eq_false_iff_not]
    rintro rfl
    exact hl rfl
  have hle:(((xs.length:Int) != (ys.length:Int)))=true:=by simp;omega
  have hle2:((xs.length:Int)==(ys.length:Int))=false:=by simp;omega
  clear hl
  go_enter Tryz.func59,Tryz.ntmps59
  go_wp2
  go_ret
  exact⟨by rw[HF.out];rfl,Below.refl _ _⟩
set_option maxHeartbeats 4000000 in
theorem allLead_any {w:World} {u:Value} {xs:List Int} (h:IntsAt w u xs) (hl:xs.length≤1048576) (ha:AllI xs) :
    Calls Tryz.prog 120 #[u] w fun e w'=>e = .returned (.bool (xs.all isA))∧w'=w:=by
 have HI:Hid _:=h
 have HA:Hid _:=ha
 obtain⟨a2,cap2,rfl,_,_,_,_⟩:=h
 obtain⟨R,hR⟩:∃R,xs.all isA=R:=⟨_,rfl⟩
 rw[hR]
 have HR:Hid _:=hR
 clear hR ha
 go_enter Tryz.func120,Tryz.ntmps120
 go_wp2_with fail
 go_loopw [4,7] (fun _ q wr=>∃k:Nat,k≤xs.length∧q = .int .i64 (k:Int)∧(∀m,m<k→isA (xs.getD m 0)=true)∧wr=w) (fun _ q _=>xs.length-(intOf q).toNat)
 case atStart=>exact⟨0,Nat.zero_le _,rfl,fun m hm=>by omega,rfl⟩
 case round=>
  obtain⟨k,hk,rfl,hall,hw⟩:=hrel
  subst hw
  have HAL:Hid _:=hall
  by_cases hlt:k<xs.length
  ·obtain⟨b,off,ea,_,x0⟩:=ints_cellI HI.out hlt
   subst ea
   obtain⟨y,hy⟩:∃y,xs.getD k 0=y:=⟨_,rfl⟩
   have hmem:y ∈ xs:=by rw[←hy,List.getD_eq_getElem?_getD,List.getElem?_eq_getElem hlt];exact List.getElem_mem hlt
   have hyb:=HA.out y hmem
   have CY:=isAddr_any y wr hyb.1 hyb.2
   have HF1:Hid (isA y=true→∀m,m<k+1→isA (xs.getD m 0)=true):=fun e m hm=>by
    by_cases e':m=k
    ·rw[e',hy];exact e
    ·exact HAL.out m (by omega)
   have HF2:Hid (isA y=false→R=false):=fun e=>by
    rw[←HR.out,List.all_eq_false]
    exact⟨y,hmem,by rw[e];decide⟩
   rw[hy]at x0
   have hlt':(k:Int)<(xs.length:Int):=by omega
   clear hall hyb hy hmem
   cases hw:isA y
   ·rw[hw]at CY
    have HV:Hid _:=HF2.out hw
    clear hw HF1 HF2
    go_wp2_with (go_at_call 137;refine CY.mono ?_;clear CY;rintro e w3 ⟨rfl,hw3⟩;rw[hw3];clear hw3 w3)
    go_ret
    exact⟨by rw[HV.out];rfl,rfl⟩
   ·rw[hw]at CY
    have HV:Hid _:=HF1.out hw
    clear hw HF1 HF2
    go_wp2_with (go_at_call 137;refine CY.mono ?_;clear CY;rintro e w3 ⟨rfl,hw3⟩;rw[hw3];clear hw3 w3)
    exact⟨⟨k+1,by omega,by go_num,HV.out,by trivial⟩,by simp[intOf];omega⟩
  ·have hlt':¬(k:Int)<(xs.length:Int):=by omega
   have HF:Hid (R=true):=by
    show _=_
    rw[←HR.out,List.all_eq_true]
    intro x hx
    obtain⟨m,hm,rfl⟩:=List.getElem_of_mem hx
    have:=hall m (by omega)
    rwa [List.getD_eq_getElem?_getD,List.getElem?_eq_getElem hm]at this
   clear hall
   go_wp2
   go_ret
   exact⟨by rw[HF.out];rfl,rfl⟩
end Go.Proofs.YtemlagfaaibenaaGreat.hp
