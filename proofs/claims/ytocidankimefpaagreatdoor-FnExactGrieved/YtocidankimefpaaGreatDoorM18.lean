/- Chapter 9 as the program has it: whether -/
import Derived.Test.YtocidankimefpaaGreatDoorM17
import Derived.Test.YtocidankimefpaaGreatDoorHeapS6
import Derived.Test.YtocidankimefpaaGreatDoorHeapP
set_option linter.unusedSimpArgs false
set_option linter.unusedVariables false
set_option maxRecDepth 100000
namespace Go.Proofs.YtocidankimefpaaGreatDoor.hp
open Go.RowKit rows heads words walks
set_option maxHeartbeats 8000000 in
theorem uq {w:World} {up:Int} {a:Option Addr} {n c:Nat} {d:Pd} {xs:List Int} (hu:∃a n c,d.u = .slice a n c) (hl:xs.length≤1048576) (ha:iO xs)
    (hS:∀V,Below w.heap.size w V→Calls Tryz.prog 71 #[cv d.s d.f d.c d.h d.p d.m d.u] V fun e w'=>∃ua un uc,e = .returned (.slice ua un uc)∧au w' (.slice ua un uc) xs∧Below V.heap.size V w') :
    Calls Tryz.prog 116 #[rmv up (.slice a n c),pdv d] w fun e w'=>e = .returned (.bool (xs.any (qi up)))∧Below w.heap.size w w':=by
 obtain⟨ds',df,dc,dh,dp,dm,du,dl⟩:=d;obtain⟨sa,sn,sc,hsv⟩:=hu;simp only at hsv hS;subst hsv;obtain⟨P,hP⟩:∃P,xs.any (qi up)=P:=⟨_,rfl⟩
 have B0:Below w.heap.size w (w.alloc (rmb up (.slice a n c))):=(Below.refl _ _).alloc (Nat.le_refl _) _;have B1:=B0.alloc B0.size (pdb ⟨ds',df,dc,dh,dp,dm,.slice sa sn sc,dl⟩)
 have HALL:Hid (∀V,Below ((w.alloc (rmb up (.slice a n c))).alloc (pdb ⟨ds',df,dc,dh,dp,dm,.slice sa sn sc,dl⟩)).heap.size ((w.alloc (rmb up (.slice a n c))).alloc (pdb ⟨ds',df,dc,dh,dp,dm,.slice sa sn sc,dl⟩)) V→(V.cell? ⟨w.heap.size,0,none⟩=some (.int .i64 up)∧V.cell? ⟨w.heap.size,1,none⟩=some (.slice a n c))∧V.heap[w.heap.size+1]? = some (pdb ⟨ds',df,dc,dh,dp,dm,.slice sa sn sc,dl⟩)∧Below w.heap.size w V):=by
  intro V hV;have T1:=heap_alloc_new (w.alloc (rmb up (.slice a n c))) (pdb ⟨ds',df,dc,dh,dp,dm,.slice sa sn sc,dl⟩);have T2:Below (w.heap.size+1) (w.alloc (rmb up (.slice a n c))) V:=((Below.refl _ _).alloc (by simp) _).trans (hV.mono (by simp));have q0:V.heap[w.heap.size]? = some (rmb up (.slice a n c)):=(T2.block _ (by omega)).trans (heap_alloc_new w _);have q1:V.heap[w.heap.size+1]? = some (pdb ⟨ds',df,dc,dh,dp,dm,.slice sa sn sc,dl⟩):=(hV.block (w.heap.size+1) (by simp)).trans ((congrArg (fun k=>((w.alloc (rmb up (.slice a n c))).alloc (pdb ⟨ds',df,dc,dh,dp,dm,.slice sa sn sc,dl⟩)).heap[k]?) (show w.heap.size+1=(w.alloc (rmb up (.slice a n c))).heap.size by simp)).trans T1);exact⟨(bZ q0).1,q1,B1.trans (hV.mono B1.size)⟩
 have HC:Hid (∀V u,au V u xs→Calls Tryz.prog 72 #[u,.func (.func 155) #[rmv up (.slice a n c)] #[]] V fun e w'=>e = .returned (.bool P)∧Below V.heap.size V w'):=fun V u hI=>by
  have:=nA (up:=up) (a:=a) (n:=n) (c:=c) hI hl ha
  rwa [hP]at this
 have HSC:Hid _:=hS;rw[hP];clear hS B0 B1 hP ha;go_enter Tryz.func116,Tryz.ntmps116;go_upto_region 1 with fail
 generalize (w.alloc _).alloc _=X at *;obtain⟨⟨z0,z1⟩,q1,bX⟩:=HALL.out X (Below.refl _ _);obtain⟨⟨p0,p1,p2,p3,p4,p5,p6,p7⟩,_⟩:=bk q1;simp only at p0 p1 p2 p3 p4 p5 p6 p7;clear q1 bX
 have HG:Hid (∀(V w':World),Below V.heap.size V w'→Below X.heap.size X V→(w'.cell? ⟨w.heap.size,0,none⟩=some (.int .i64 up)∧w'.cell? ⟨w.heap.size,1,none⟩=some (.slice a n c))∧Below w.heap.size w w'):=by
  intro V w' h1 h2;have hX:Below X.heap.size X w':=h2.trans (h1.mono h2.size);obtain⟨hz,_,hw⟩:=HALL.out w' hX;exact⟨hz,hw⟩
 have HGB:Hid (∀V,Below X.heap.size X V→Below w.heap.size w V):=fun V hV=>(HG.out X V hV (Below.refl _ _)).2
 clear HALL
 go_region_law (first
  |(go_simp;go_at_call 71;refine Calls.mono (HSC.out _ (HGB.out _ ⟨rfl,rfl,rfl,Nat.le_refl _,fun _ _=>rfl⟩)) ?_;rintro e w5 ⟨ua,un,uc,rfl,i5,b5⟩;obtain⟨⟨t0,t1⟩,y5⟩:=HG.out _ _ b5 ⟨rfl,rfl,rfl,Nat.le_refl _,fun _ _=>rfl⟩;have HI5:Hid _:=i5;have HW5:Hid _:=y5;clear HSC i5 y5 b5 HG HGB)
  |(go_simp;go_at_call 72;refine Calls.mono (HC.out _ _ HI5.out) ?_;rintro e w6 ⟨rfl,b6⟩;have HX6:Hid (Below w.heap.size w w6):=HW5.out.trans ((⟨b6.os,b6.tape,b6.output,b6.size,b6.block⟩:Below w5.heap.size w5 w6).mono HW5.out.size);clear HC b6))
 all_goals go_wp2
 all_goals go_ret
 all_goals exact⟨rfl,HX6.out⟩
theorem AE {xs ys:List Int} (hl:xs.length=ys.length) (h:∀m,m<xs.length→xs.getD m 0=ys.getD m 0):xs=ys:=by
 refine List.ext_getElem hl fun i h1 h2 => ?_
 have:=h i h1
 simpa [List.getD_eq_getElem?_getD,List.getElem?_eq_getElem h1,List.getElem?_eq_getElem h2] using this
set_option maxHeartbeats 4000000 in
theorem Dj {w:World} {u v:Value} {xs ys:List Int} (h1:au w u xs) (h2:au w v ys) (l1:xs.length≤1048576) (l2:ys.length≤1048576) :
    Calls Tryz.prog 67 #[u,v] w fun e w'=>e = .returned (.bool (decide (xs=ys)))∧Below w.heap.size w w':=by
 have H1:Hid _:=h1;have H2:Hid _:=h2;obtain⟨a1,c1,rfl,_,_,_,_⟩:=h1;obtain⟨a2,c2,rfl,_,_,_,_⟩:=h2;obtain⟨R,hR⟩:∃R,decide (xs=ys)=R:=⟨_,rfl⟩
 rw[hR];have HR:Hid _:=hR;clear hR;by_cases hl:xs.length=ys.length
 ·have HLN:Hid _:=hl;have hle:(((xs.length:Int) != (ys.length:Int)))=false:=by simp[hl]
  have hle2:((xs.length:Int)==(ys.length:Int))=true:=by simp[hl]
  clear hl;go_enter Tryz.func67,Tryz.ntmps67;go_wp2_with fail;go_loopw [5,13] (fun _ q wr=>∃k:Nat,k≤xs.length∧q = .int .i64 (k:Int)∧(∀m,m<k→xs.getD m 0=ys.getD m 0)∧Below w.heap.size w wr) (fun _ q _=>xs.length-(intOf q).toNat);case atStart=>exact⟨0,Nat.zero_le _,rfl,fun m hm=>by omega,Below.refl _ _⟩
  case round=>
   obtain⟨k,hk,rfl,hall,hB⟩:=hrel;have HB:Hid _:=hB;have HAL:Hid _:=hall;by_cases hlt:k<xs.length
   ·have hlt2:k<ys.length:=by have:=HLN.out;omega
    obtain⟨b,off,ea,_,x0⟩:=fU (aa H1.out hB) hlt;subst ea;obtain⟨b',off',ea,_,y0⟩:=fU (aa H2.out hB) hlt2;subst ea;have hlt':(k:Int)<(xs.length:Int):=by omega
    have hlt2':(k:Int)<(ys.length:Int):=by omega
    obtain⟨x,hx⟩:∃x,xs.getD k 0=x:=⟨_,rfl⟩
    obtain⟨y,hy⟩:∃y,ys.getD k 0=y:=⟨_,rfl⟩
    rw[hx]at x0;rw[hy]at y0
    have HF:Hid (¬x=y→R=false):=fun e=>by
     rw[←HR.out,decide_eq_false_iff_not];rintro rfl;exact e (hx.symm.trans hy)
    have HV:Hid (x=y→∀m,m<k+1→xs.getD m 0=ys.getD m 0):=fun e m hm=>by
     by_cases e':m=k
     ·rw[e',hx,hy];exact e
     ·exact HAL.out m (by omega)
    clear hall hB hx hy;by_cases hxy:x=y
    ·have HV0:Hid _:=HV.out hxy;have e1:(x != y)=false:=by simp[hxy]
     have e2:(x==y)=true:=by simp[hxy]
     clear HV HF hxy;go_upto_region 6 with fail
     go_quiet (fail);have HBD:Hid (Below w.heap.size w (wr.drewN nq)):=HB.out.trans ((br ⟨_,rfl⟩:Below wr.heap.size wr (wr.drewN nq)).mono HB.out.size);clear x0 y0;generalize wr.drewN nq=Z at *;go_wp2;exact⟨⟨k+1,by omega,by go_num,HV0.out,HBD.out⟩,by simp[intOf];omega⟩
    ·have HF0:Hid _:=HF.out hxy;have e1:(x != y)=true:=by simp[hxy]
     have e2:(x==y)=false:=by simp[hxy]
     clear HV HF hxy;go_upto_region 6 with fail
     go_quiet (fail);have HBD:Hid (Below w.heap.size w (wr.drewN nq)):=HB.out.trans ((br ⟨_,rfl⟩:Below wr.heap.size wr (wr.drewN nq)).mono HB.out.size);clear x0 y0;generalize wr.drewN nq=Z at *;go_wp2;go_ret;exact⟨by rw[HF0.out];rfl,HBD.out⟩
   ·have hlt':¬(k:Int)<(xs.length:Int):=by omega
    have HF:Hid (R=true):=by show _=_;rw[←HR.out,decide_eq_true_eq];exact AE HLN.out (fun m hm=>hall m (by omega))
    clear hall hB;go_wp2;go_ret;exact⟨by rw[HF.out];rfl,HB.out⟩
 ·have HF:Hid (R=false):=by
    show _=_
    rw[←HR.out,decide_eq_false_iff_not];rintro rfl;exact hl rfl
  have hle:(((xs.length:Int) != (ys.length:Int)))=true:=by simp;omega
  have hle2:((xs.length:Int)==(ys.length:Int))=false:=by simp;omega
  clear hl;go_enter Tryz.func67,Tryz.ntmps67;go_wp2;go_ret;exact⟨by rw[HF.out];rfl,Below.refl _ _⟩
set_option maxHeartbeats 4000000 in
theorem yl {w:World} {u:Value} {xs:List Int} (h:au w u xs) (hl:xs.length≤1048576) (ha:iO xs) :
    Calls Tryz.prog 154 #[u] w fun e w'=>e = .returned (.bool (xs.all isA))∧w'=w:=by
 have HI:Hid _:=h;have HA:Hid _:=ha;obtain⟨a2,cap2,rfl,_,_,_,_⟩:=h;obtain⟨R,hR⟩:∃R,xs.all isA=R:=⟨_,rfl⟩
 rw[hR];have HR:Hid _:=hR;clear hR ha;go_enter Tryz.func154,Tryz.ntmps154;go_wp2_with fail;go_loopw [4,7] (fun _ q wr=>∃k:Nat,k≤xs.length∧q = .int .i64 (k:Int)∧(∀m,m<k→isA (xs.getD m 0)=true)∧wr=w) (fun _ q _=>xs.length-(intOf q).toNat);case atStart=>exact⟨0,Nat.zero_le _,rfl,fun m hm=>by omega,rfl⟩
 case round=>
  obtain⟨k,hk,rfl,hall,hw⟩:=hrel;subst hw;have HAL:Hid _:=hall;by_cases hlt:k<xs.length
  ·obtain⟨b,off,ea,_,x0⟩:=fU HI.out hlt;subst ea;obtain⟨y,hy⟩:∃y,xs.getD k 0=y:=⟨_,rfl⟩
   have hmem:y ∈ xs:=by rw[←hy,List.getD_eq_getElem?_getD,List.getElem?_eq_getElem hlt];exact List.getElem_mem hlt
   have hyb:=HA.out y hmem;have CY:=bt y wr hyb.1 hyb.2
   have HF1:Hid (isA y=true→∀m,m<k+1→isA (xs.getD m 0)=true):=fun e m hm=>by
    by_cases e':m=k
    ·rw[e',hy];exact e
    ·exact HAL.out m (by omega)
   have HF2:Hid (isA y=false→R=false):=fun e=>by
    rw[←HR.out,List.all_eq_false];exact⟨y,hmem,by rw[e];decide⟩
   rw[hy]at x0;have hlt':(k:Int)<(xs.length:Int):=by omega
   clear hall hyb hy hmem;cases hw:isA y
   ·rw[hw]at CY;have HV:Hid _:=HF2.out hw;clear hw HF1 HF2;go_wp2_with (go_at_call 182;refine CY.mono ?_;clear CY;rintro e w3 ⟨rfl,hw3⟩;rw[hw3];clear hw3 w3);go_ret;exact⟨by rw[HV.out];rfl,rfl⟩
   ·rw[hw]at CY;have HV:Hid _:=HF1.out hw;clear hw HF1 HF2;go_wp2_with (go_at_call 182;refine CY.mono ?_;clear CY;rintro e w3 ⟨rfl,hw3⟩;rw[hw3];clear hw3 w3);exact⟨⟨k+1,by omega,by go_num,HV.out,by trivial⟩,by simp[intOf];omega⟩
  ·have hlt':¬(k:Int)<(xs.length:Int):=by omega
   have HF:Hid (R=true):=by
    show _=_
    rw[←HR.out,List.all_eq_true];intro x hx;obtain⟨m,hm,rfl⟩:=List.getElem_of_mem hx;have:=hall m (by omega)
    rwa [List.getD_eq_getElem?_getD,List.getElem?_eq_getElem hm]at this
   clear hall;go_wp2;go_ret;exact⟨by rw[HF.out];rfl,rfl⟩
def wu (up:Int) (sl:Pd→List Int) (d:Pd):Bool:=decide (up≤d.pl)&&(sl d).any (qi up)
def ij (up:Int) (sl:Pd→List Int) (ds:List Pd):List Int:=(ds.filter (wu up sl)).map (·.pl)
theorem AF {up:Int} {sl:Pd→List Int} {ds:List Pd} {k:Nat} (hk:k<ds.length):ij up sl (ds.take (k+1))=ij up sl (ds.take k)++(if wu up sl (ds.getD k pdD)=true then [(ds.getD k pdD).pl] else []):=by
 unfold ij;rw[List.take_add_one,List.filter_append,List.map_append,List.getElem?_eq_getElem hk,List.getD_eq_getElem?_getD,List.getElem?_eq_getElem hk];simp only[Option.toList_some,Option.getD_some];congr 1
 cases h:wu up sl ds[k]<;>simp[h]
theorem wA (up:Int) (sl:Pd→List Int) (ds:List Pd):(ij up sl ds).length≤ds.length:=by
 unfold ij;rw[List.length_map];exact List.length_filter_le _ _
set_option maxHeartbeats 8000000 in
theorem ym {w:World} {up:Int} {v:Value} {ds:List Pd} {sl:Pd→List Int} (h:eF w v ds) (hs:ck ds) (hl:ds.length≤1048576) (hS:qh w ds sl) :
    Calls Tryz.prog 68 #[rmv up v] w fun e w'=>∃u,e = .returned u∧rows.Own w' w.heap.size u (ij up sl ds)∧Below w.heap.size w w':=by
 obtain⟨i0,hi,hz0,hz1,hz2⟩:=info_parts info;have HI:Hid _:=And.intro hi (And.intro hz0 (And.intro hz1 hz2));obtain⟨a,cap,rfl⟩:=aQ h;have HP:Hid _:=h;have HSL:Hid _:=hs;have B0:Below w.heap.size w (w.alloc (rmb up (.slice a ds.length cap))):=(Below.refl _ _).alloc (Nat.le_refl _) _
 have HALL:Hid (∀V,Below (w.alloc (rmb up (.slice a ds.length cap))).heap.size (w.alloc (rmb up (.slice a ds.length cap))) V→(V.cell? ⟨w.heap.size,0,none⟩=some (.int .i64 up)∧V.cell? ⟨w.heap.size,1,none⟩=some (.slice a ds.length cap))∧Below w.heap.size w V):=by
  intro V hV;have q0:V.heap[w.heap.size]? = some (rmb up (.slice a ds.length cap)):=(hV.block _ (by simp)).trans (heap_alloc_new w _);exact⟨(bZ q0).1,B0.trans (hV.mono B0.size)⟩
 have HSP:Hid _:=hS;have sW:w.heap.size≤(w.alloc (rmb up (.slice a ds.length cap))).heap.size:=by simp
 clear h hs B0 hS hi hz0 hz1 hz2;go_enter Tryz.func68,Tryz.ntmps68;go_upto_region 1 with fail
 generalize w.alloc (rmb up (.slice a ds.length cap))=X at *;have HOO:Hid _:=fR X X.heap.size (Nat.le_refl _);have BX:Below X.heap.size X (X.alloc (.cells #[] 2)):=(Below.refl _ _).alloc (Nat.le_refl _) _;have HBX:Hid _:=BX;obtain⟨⟨z0,z1⟩,_⟩:=HALL.out _ BX;clear BX;go_wp2_with fail;clear z0 z1;go_loopw [3,5,10] (fun u _ q wr=>∃(k:Nat) (u0:Value),u0=u∧k≤ds.length∧q = .int .i64 (k:Int)∧rows.Own wr X.heap.size u0 (ij up sl (ds.take k))∧Below X.heap.size X wr) (fun _ _ q _=>ds.length-(intOf q).toNat);case atStart=>exact⟨0,_,rfl,Nat.zero_le _,rfl,HOO.out,HBX.out⟩
 case round=>
  obtain⟨k,u0,rfl,hk,rfl,hO,hB⟩:=hrel;have HB:Hid _:=hB;obtain⟨⟨z0,z1⟩,bw⟩:=HALL.out wr hB;have HO:Hid _:=hO;have sr:=hB.size;by_cases hlt:k<ds.length
  ·obtain⟨b,off,ea,hbl,k0,k1,k2,k3,k4,k5,k6,k7⟩:=iB (aT HP.out bw) hlt;subst ea;obtain⟨sa,sn,sc,hsv⟩:=HSL.out _ (bj hlt);have hlt':(k:Int)<(ds.length:Int):=by omega
   have SC:=fun V hV=>HSP.out.call V hV k hlt
   have sl1:=HSP.out.len k hlt;have sl2:=HSP.out.num k hlt;have HN:Hid _:=AF (up:=up) (sl:=sl) hlt;obtain⟨d,hd⟩:∃d,ds.getD k pdD=d:=⟨_,rfl⟩
   rw[hd]at k0 k1 k2 k3 k4 k5 k6 k7 hsv sl1 sl2;simp only[hd]at SC HN;obtain⟨xs,hxs⟩:∃xs,sl d=xs:=⟨_,rfl⟩
   rw[hxs]at sl1 sl2;simp only[hxs]at SC;have hmb:wu up sl d=(decide (up≤d.pl)&&xs.any (qi up)):=by unfold wu;rw[hxs]
   rw[hmb]at HN;obtain⟨ds',df,dc,dh,dp,dm,du,dl⟩:=d;simp only at k0 k1 k2 k3 k4 k5 k6 k7 hsv SC HN;subst hsv;clear hmb hxs hd hO hB;have BY:Below wr.heap.size wr (wr.alloc (pdb ⟨ds',df,dc,dh,dp,dm,.slice sa sn sc,dl⟩)):=(Below.refl _ _).alloc (Nat.le_refl _) _;have CS:=uq (w:=wr.alloc (pdb ⟨ds',df,dc,dh,dp,dm,.slice sa sn sc,dl⟩)) (up:=up) (a:=some ⟨b,off,none⟩) (n:=ds.length) (c:=cap) (d:=⟨ds',df,dc,dh,dp,dm,.slice sa sn sc,dl⟩) (xs:=xs) ⟨_,_,_,rfl⟩ sl1 sl2 (fun V hV=>SC V (bw.trans ((BY.trans (hV.mono BY.size)).mono bw.size)));obtain⟨⟨p0,p1,p2,p3,p4,p5,p6,p7⟩,_⟩:=bk (heap_alloc_new wr (pdb ⟨ds',df,dc,dh,dp,dm,.slice sa sn sc,dl⟩));simp only at p0 p1 p2 p3 p4 p5 p6 p7;have HBY:Hid _:=BY;obtain⟨P,hP⟩:∃P,xs.any (qi up)=P:=⟨_,rfl⟩
   rw[hP]at CS HN;clear hP SC sl1 sl2 bw z0 z1 BY;go_upto_region 5 with fail
   clear k0 k1 k2 k3 k4 k5 k6 k7;have sY:wr.heap.size<(wr.alloc (pdb ⟨ds',df,dc,dh,dp,dm,.slice sa sn sc,dl⟩)).heap.size:=by simp
   have HY:Hid (Below X.heap.size X (wr.alloc (pdb ⟨ds',df,dc,dh,dp,dm,.slice sa sn sc,dl⟩))):=HB.out.trans (HBY.out.mono HB.out.size);have HOY:Hid (rows.Own (wr.alloc (pdb ⟨ds',df,dc,dh,dp,dm,.slice sa sn sc,dl⟩)) X.heap.size u0 (ij up sl (ds.take k))):=aB HO.out HBY.out;obtain⟨⟨z0,z1⟩,_⟩:=HALL.out _ HY.out;generalize wr.alloc (pdb ⟨ds',df,dc,dh,dp,dm,.slice sa sn sc,dl⟩)=Y at *;by_cases hge:dl ≥ up
   ·have hle:up≤dl:=hge;rw[decide_eq_true hle,Bool.true_and]at HN;cases P
    ·rw[if_neg (by decide),List.append_nil]at HN;go_wp2_with (go_at_call 116;refine CS.mono ?_;clear CS p0 p1 p2 p3 p4 p5 p6 p7 z0 z1;rintro e w5 ⟨rfl,b5⟩;have HB5:Hid _:=b5;clear b5);exact⟨⟨k+1,_,rfl,by omega,by go_num,by rw[HN.out];exact aB HOY.out HB5.out,HY.out.trans (HB5.out.mono HY.out.size)⟩,by simp[intOf];omega⟩
    ·rw[if_pos rfl]at HN;obtain⟨qs,hqs⟩:∃qs,ij up sl (ds.take k)=qs:=⟨_,rfl⟩
     have hql:qs.length≤1048576:=by rw[←hqs];exact Nat.le_trans (wA _ _ _) (by simp;omega)
     rw[hqs]at HN HOY;clear hqs HO;obtain⟨va,vcp,rfl,_,_,_,_⟩:=aj HOY.out
     have HSTEP:Hid (∀(w5:World),Below Y.heap.size Y w5→∀(v':Value) (w6:World),w6.ownsRow X.heap.size 2 1 v' (qs.length+1) (cellsOf qs++[.int .i64 dl])→(w5.alloc (.cells #[.int .i64 dl] 2)).grownBy w6 (Value.slice va qs.length vcp).ownBlock→(v'.ownBlock=(Value.slice va qs.length vcp).ownBlock∨v'.ownBlock=some (w5.alloc (.cells #[.int .i64 dl] 2)).heap.size)→(∃a n c,v' = .slice a n c)∧rows.Own w6 X.heap.size v' (ij up sl (ds.take (k+1)))∧Below X.heap.size X w6):=fun w5 b5 v' w6 h1 h2 h3=>by
      obtain⟨on,gr,nb⟩:=FR h1 h2 h3;rw[HN.out];obtain⟨a',c',e',_⟩:=aj on;have B5:=HY.out.trans (b5.mono HY.out.size);exact⟨⟨_,_,_,e'⟩,on,qD B5 gr (jD (aB HOY.out b5)) B5.size⟩
     go_wp2_with (first
      |(go_at_call 116;refine CS.mono ?_;clear CS z0 z1;rintro e w5 ⟨rfl,b5⟩;have p7':=(b5.cell (p:=⟨wr.heap.size,7,none⟩) sY).trans p7;have HOA:Hid (rows.Own (w5.alloc (.cells #[.int .i64 dl] 2)) X.heap.size (.slice va qs.length vcp) qs):=World.ownsRow.alloc (aB HOY.out b5) _;have hba:X.heap.size≤(w5.alloc (.cells #[.int .i64 dl] 2)).heap.size:=(by have:=b5.size;have:=HY.out.size;simp;omega);have HNW:Hid _:=FT w5 dl;have HST5:Hid _:=HSTEP.out w5 b5;clear p0 p1 p2 p3 p4 p5 p6 p7 b5 HSTEP)
      |(refine wpList_append_own_at _ rfl (.tmp 24) (.tmp 27) 22 rfl X.heap.size 2 i0 (.int .i64 0) 1 8 Tryz.underlying22 HI.out.1 HI.out.2.1 HI.out.2.2.1 HI.out.2.2.2 rfl (by decide) (.slice va qs.length vcp) qs.length (cellsOf qs) rfl HOA.out ⟨w5.heap.size,0,none⟩ 1 1 [.int .i64 dl] rfl rfl HNW.out (by simp[Value.oneCell']) (by unfold maxLen;omega) (by omega) hba ?_;intro v' w6 hown hgrow _ hat;obtain⟨⟨va',vn',vc',rfl⟩,st⟩:=HST5.out v' w6 hown hgrow hat;have HST:Hid _:=st;clear st hown hgrow hat))
     exact⟨⟨k+1,_,rfl,by omega,by go_num,HST.out⟩,by simp[intOf];omega⟩
   ·have hle:¬up≤dl:=hge;rw[decide_eq_false hle,Bool.false_and,if_neg (by decide),List.append_nil]at HN;clear CS;go_wp2;exact⟨⟨k+1,_,rfl,by omega,by go_num,by rw[HN.out];exact HOY.out,HY.out⟩,by simp[intOf];omega⟩
  ·have e:k=ds.length:=by omega
   subst e;rw[List.take_length]at hO;have HF:Hid _:=hO;have HBW:Hid _:=bw;have hlt':¬(ds.length:Int)<(ds.length:Int):=by omega
   clear hO hB bw z0 z1;go_wp2;go_ret;exact⟨_,rfl,cL HF.out sW,HBW.out⟩
theorem pK (H:Hp):rE H=false↔(kV H=true∧H.roots.length=6∧H.a7.length≤40):=by
 unfold kV ia evn rE hb8 hb7 hb6 hb5 hb4 hb3 hb2 hb1 hb0;simp only[inR,Bool.or_eq_false_iff,Bool.not_eq_false',Bool.and_eq_true,Bool.or_eq_true,decide_eq_true_eq,beq_iff_eq,bne_eq_false_iff_eq,decide_eq_false_iff_not];omega
theorem mW {H:Hp} (hn:kV H=true):∃half old top fr:Nat,H.half=half∧H.old=old∧H.top=top∧frO H=fr∧hf H=half∧od H=old∧tp H=top∧bs H=fr∧fr+top≤2*half∧H.row.length=2*half+old∧half≤200∧old≤400:=by
 obtain⟨N⟩:=Ij hn;refine⟨N.half,N.old,N.top,N.fr,N.eh,N.eo,N.et,N.ef,?_,?_,?_,?_,N.lt,N.ln,N.bh,N.bo⟩
 ·unfold hf;rw[N.eh];simp
 ·unfold od;rw[N.eo];simp
 ·unfold tp;rw[N.et];simp
 ·have:=N.ef
  unfold frO at this;unfold bs;rw[this];simp
theorem tj {H:Hp} (hn:kV H=true):lI H.row (frO H) (toO H)=kY H∧lI H.row (2*H.half) (2*H.half+H.old)=upW H:=by
 obtain⟨half,old,top,fr,e1,e2,e3,e4,e5,e6,e7,e8,h1,h2,h3,h4⟩:=mW hn;have et:toO H=(fr:Int)+top:=by have:toO H=frO H+H.top:=rfl;rw[this,e4,e3]
 constructor
 ·unfold lI;rw[if_pos]
  ·unfold kY;rw[e8,e7,et,e4];congr 1
  ·simp only[gC,jl,Bool.and_eq_true,decide_eq_true_eq];rw[et,e4];omega
 ·unfold lI;rw[if_pos]
  ·unfold upW;rw[e5,e6,e1,e2];congr 1
  ·simp only[gC,jl,Bool.and_eq_true,decide_eq_true_eq];rw[e1,e2];omega
theorem Dk (a:Option Addr) (H:Hp) (r:List Int):((dR a H.row r).any gF) = !(r.all (iA H)):=by
 unfold dR;induction r with
 |nil=>rfl
 |cons x r ih=>
  simp only[List.map_cons,List.any_cons,List.all_cons,ih]
  have:gF (iP a H.row x.toNat) = !(iA H x):=by
   show ((uF (H.row.getD x.toNat 0)==6) || uP (H.row.getD x.toNat 0)) = !(!(uF (H.row.getD x.toNat 0)==6) && !(uP (H.row.getD x.toNat 0)))
   cases (uF (H.row.getD x.toNat 0)==6)<;>cases uP (H.row.getD x.toNat 0)<;>rfl
  rw[this];cases iA H x<;>cases r.all (iA H)<;>rfl
theorem oP (xs:List Int):xs.all (· == 0)=true↔∀i,i<xs.length→xs.getD i 0=0:=by
 rw[List.all_eq_true];constructor
 ·intro h i hi;have:=h xs[i] (List.getElem_mem hi)
  rw[List.getD_eq_getElem?_getD,List.getElem?_eq_getElem hi];simpa using this
 ·intro h x hx;obtain⟨i,hi,rfl⟩:=List.getElem_of_mem hx;have:=h i hi
  rw[List.getD_eq_getElem?_getD,List.getElem?_eq_getElem hi]at this;simpa using this
theorem tn {H:Hp} (hn:kV H=true):sR H=kW H:=by
 obtain⟨half,old,top,fr,e1,e2,e3,e4,e5,e6,e7,e8,h1,h2,h3,h4⟩:=mW hn;have et:toO H=(fr:Int)+top:=by have:toO H=frO H+H.top:=rfl;rw[this,e4,e3]
 have key:sR H=true↔kW H=true:=by
  unfold sR kW;rw[Bool.and_eq_true,oP,oP,List.all_eq_true,et,e4,e1,e5];have q1:((fr:Int)).toNat=fr:=by omega
  have q2:((fr:Int)+top).toNat=fr+top:=by omega
  have q3:(2*(half:Int)-((fr:Int)+top)).toNat=2*half-(fr+top):=by omega
  rw[q1,q2,q3];constructor
  ·rintro⟨a1,a2⟩ i hi;rw[List.mem_range]at hi;unfold zeroAt;rw[e8,e7];by_cases c1:i<fr
   ·have:=a1 i (by rw[List.length_take];omega)
    rw[List.getD_eq_getElem?_getD,List.getElem?_take,if_pos c1,←List.getD_eq_getElem?_getD]at this;rw[this];simp
   ·by_cases c2:fr+top≤i
    ·have:=a2 (i-(fr+top)) (by rw[List.length_take,List.length_drop];omega)
     rw[List.getD_eq_getElem?_getD,List.getElem?_take,if_pos (by omega),List.getElem?_drop,show fr+top+(i-(fr+top))=i by omega,←List.getD_eq_getElem?_getD]at this;rw[this];simp
    ·simp[c1,c2]
  ·intro h
   have g:∀i,i<2*half→(i<fr∨fr+top≤i)→H.row.getD i 0=0:=by
    intro i hi hc;have:=h i (List.mem_range.2 hi)
    unfold zeroAt at this;rw[e8,e7]at this;simp only[Bool.or_eq_true,Bool.not_eq_true',Bool.or_eq_false_iff,decide_eq_false_iff_not,beq_iff_eq]at this;rcases this with t|t
    ·omega
    ·exact t
   constructor
   ·intro i hi;rw[List.length_take]at hi;rw[List.getD_eq_getElem?_getD,List.getElem?_take,if_pos (by omega),←List.getD_eq_getElem?_getD];exact g i (by omega) (by omega)
   ·intro i hi;rw[List.length_take,List.length_drop]at hi;rw[List.getD_eq_getElem?_getD,List.getElem?_take,if_pos (by omega),List.getElem?_drop,←List.getD_eq_getElem?_getD];exact g _ (by omega) (by omega)
 cases h1:sR H<;>cases h2:kW H<;>simp_all
theorem mX {a:Option Addr} {H:Hp} (hn:kV H=true) (hr:eX a H=true):∃r u,kY H=some r∧upW H=some u∧dY H=some (r++u)∧aG a H=dR a H.row r++gi (dR a H.row u):=by
 obtain⟨w1,w2⟩:=tj hn;unfold eX Gy fK walked at hr;unfold aG Gy Gz walked;rw[w1,w2,tn hn,Dk]at hr;rw[w1,w2];simp only[Bool.and_eq_true,Bool.not_not]at hr;obtain⟨⟨⟨a1,a2⟩,a3⟩,a4⟩:=hr;obtain⟨r,e1⟩:=Option.isSome_iff_exists.1 a1;obtain⟨u,e2⟩:=Option.isSome_iff_exists.1 a4;rw[e1]at a2;refine⟨r,u,e1,e2,lF a3 e1 e2 a2,?_⟩
 rw[e1,e2];rfl
theorem Dl {a:Option Addr} {H:Hp} (hn:kV H=true) (hr:eX a H=false):dY H=none:=by
 obtain⟨w1,w2⟩:=tj hn;unfold eX Gy fK walked at hr;rw[w1,w2,tn hn,Dk]at hr;cases e1:kY H with
 |none=>exact oJ e1
 |some r=>
  cases e2:upW H with
  |none=>exact sP e2
  |some u=>
   cases e3:kW H
   ·exact kc e3
   ·rw[e1,e2,e3]at hr;refine nQ e1 ?_;simpa using hr
theorem ey (a:Option Addr) (xs:List Int) (j:Nat):(iP a xs j).pl=j:=rfl
structure pA (a:Option Addr) (H:Hp) (ps:List Int) (ds:List Pd):Prop where
 plc:∀p ∈ ps,∃j:Nat,p=j∧j<H.row.length∧chunk H.row j≠0
 ofD:∀d ∈ ds,∃j:Nat,d=iP a H.row j∧(j:Int) ∈ ps∧uF (H.row.getD j 0)≠6
 ofP:∀j:Nat,(j:Int) ∈ ps→uF (H.row.getD j 0)≠6→iP a H.row j ∈ ds
theorem zq {a:Option Addr} {H:Hp} {ps:List Int} (hn:kV H=true) (hr:eX a H=true) (h2:dY H=some ps) (h3:bO H=some ps):pA a H ps (aG a H):=by
 obtain⟨r,u,e1,e2,e3,e4⟩:=mX hn hr;rw[e3]at h2;cases h2
 have hp:=(gQ h3).1;refine⟨hp,fun d hd => ?_,fun j hj h6 => ?_⟩
 ·obtain⟨j,rfl,_,h6⟩:=lA hr d hd;refine⟨j,rfl,?_,h6⟩
  rw[e4]at hd;rcases List.mem_append.1 hd with hd|hd
  ·obtain⟨x,hx,e⟩:=List.mem_map.1 hd;obtain⟨k,ek,_⟩:=hp x (List.mem_append.2 (.inl hx));have:=congrArg Pd.pl e
   rw[ek]at this hx;simp only[ey,Int.toNat_natCast]at this;rw[←this];exact List.mem_append.2 (.inl hx)
  ·obtain⟨x,hx,e⟩:=List.mem_map.1 (List.mem_filter.1 hd).1;obtain⟨k,ek,_⟩:=hp x (List.mem_append.2 (.inr hx));have:=congrArg Pd.pl e
   rw[ek]at this hx;simp only[ey,Int.toNat_natCast]at this;rw[←this];exact List.mem_append.2 (.inr hx)
 ·rw[e4];rcases List.mem_append.1 hj with hj|hj
  ·exact List.mem_append.2 (.inl (List.mem_map.2 ⟨_,hj,by simp⟩))
  ·refine List.mem_append.2 (.inr (List.mem_filter.2 ⟨List.mem_map.2 ⟨_,hj,by simp⟩,?_⟩));show (!(uF (H.row.getD j 0)==6))=true
   simpa using h6
section
variable {a:Option Addr} {H:Hp} {ps:List Int} {ds:List Pd}
theorem pA.has (h:pA a H ps ds) (x:Int):rM ds x=(decide (x ∈ ps) && !(uF (H.row.getD x.toNat 0)==6)):=by
 have key:rM ds x=true↔(x ∈ ps∧uF (H.row.getD x.toNat 0)≠6):=by
  unfold rM;rw[List.any_eq_true];constructor
  ·rintro⟨d,hd,e⟩;obtain⟨j,rfl,hj,h6⟩:=h.ofD d hd;have e':(j:Int)=x:=by simpa [ey] using e
   subst e';exact⟨hj,by simpa using h6⟩
  ·rintro⟨hx,h6⟩;obtain⟨j,rfl,_,_⟩:=h.plc x hx;exact⟨_,h.ofP j hx (by simpa using h6),by simp[ey]⟩
 cases e:rM ds x
 ·symm
  rw[Bool.and_eq_false_iff];by_cases hx:x ∈ ps
  ·right
   have:¬(uF (H.row.getD x.toNat 0)≠6):=fun h6=>by rw[key.2 ⟨hx,h6⟩]at e;cases e
   simpa using this
  ·left;simpa using hx
 ·obtain⟨a1,a2⟩:=key.1 e;rw[decide_eq_true a1];simpa using a2
theorem pA.word (h:pA a H ps ds) (x:Int):jk ds x=aP H ps x:=by
 unfold jk aP;cases e:isA x
 ·simp
 ·have:isW x=true:=by unfold isW;rw[e];simp
  rw[this,h.has];simp
theorem pA.list (h:pA a H ps ds) (xs:List Int):gU ds xs=xs.all (aP H ps):=by
 unfold gU;congr 1
 funext x
 exact h.word x
theorem Dm (a:Option Addr) (H:Hp) (j:Nat) (h6:uF (H.row.getD j 0)≠6):slP H.row (iP a H.row j)=slotsOf H j:=by
 unfold slP slotsOf;rw[oz,ey,Int.toNat_natCast];congr 1
 unfold cnS;by_cases h7:uF (H.row.getD j 0)=7
 ·rw[if_pos h7,if_pos h7];rfl
 ·rw[if_neg h7,if_neg h7,if_neg h6]
theorem tq {H:Hp} {p:Int} (h6:uF (H.row.getD p.toNat 0)=6):slotsOf H p=[]:=by
 unfold slotsOf cnS;rw[if_neg (by omega),if_pos h6];simp
theorem pA.slots (h:pA a H ps ds):gV ds (slP H.row)=dO H ps:=by
 have key:gV ds (slP H.row)=true↔dO H ps=true:=by
  unfold gV dO;rw[List.all_eq_true,List.all_eq_true];constructor
  ·intro g p hp;obtain⟨j,rfl,_,_⟩:=h.plc p hp;by_cases h6:uF (H.row.getD j 0)=6
   ·rw[tq (by simpa using h6)];rfl
   ·have:=g _ (h.ofP j hp h6)
    rwa [h.list,Dm a H j h6]at this
  ·intro g d hd;obtain⟨j,rfl,hj,h6⟩:=h.ofD d hd;rw[h.list,Dm a H j h6];exact g _ hj
 cases e1:gV ds (slP H.row)<;>cases e2:dO H ps<;>simp_all
end
def ntH (H:Hp) (p:Int):Bool:=uF (H.row.getD p.toNat 0)==7
def nxH (H:Hp) (p:Int):Int:=av (H.row.getD (p.toNat+1) 0)
theorem uu (H:Hp):∀(n:Nat) (p:Int),endsL H n p=ends (ntH H) (nxH H) n p
 |0,_=>rfl
 |n+1,p=>by
  unfold endsL ends ntH;by_cases h:uF (H.row.getD p.toNat 0)=7
  ·rw[if_pos h,if_pos (by simpa using h),uu H n];rfl
  ·rw[if_neg h,if_neg (by simpa using h)]
theorem tr {H:Hp} {ps:List Int} (hN:uv H ps):∀p ∈ ps,ntH H p=true→nxH H p ∈ ps:=fun p hp h=>(hN p hp (by simpa [ntH] using h)).2.2
theorem mY {H:Hp} {ps:List Int} (hN:uv H ps):dZ H ps=true↔∀p ∈ ps,sD (ntH H) (nxH H) p:=by
 unfold dZ;rw[List.all_eq_true];constructor
 ·intro h p hp;have:=h p hp
  rw[uu]at this;exact⟨_,this⟩
 ·intro h p hp;rw[uu];exact (yS (tr hN) hp (by omega)).2 (h p hp)
theorem pA.ends {a:Option Addr} {H:Hp} {ps:List Int} {ds:List Pd} (h:pA a H ps ds) (hN:uv H ps):dZ H ps=true↔∀i,i<ds.length→sD (ntH H) (nxH H) (ds.getD i pdD).pl:=by
 rw[mY hN];constructor
 ·intro g i hi;obtain⟨j,e,hj,_⟩:=h.ofD _ (bj hi);rw[e,ey];exact g _ hj
 ·intro g p hp;obtain⟨j,rfl,_,_⟩:=h.plc p hp;by_cases h6:uF (H.row.getD j 0)=6
  ·refine vj ?_;unfold ntH;rw[Int.toNat_natCast,h6];rfl
  ·obtain⟨i,hi,e⟩:=List.getElem_of_mem (h.ofP j hp h6);have:=g i hi
   rw[List.getD_eq_getElem?_getD,List.getElem?_eq_getElem hi]at this;simp only[Option.getD_some]at this;rw[e,ey]at this;exact this
theorem F5 {up:Int} {sl:Pd→List Int} {ds:List Pd} (h:∀d ∈ ds,d.pl<up):ij up sl ds=[]:=by
 unfold ij;rw[List.map_eq_nil_iff,List.filter_eq_nil_iff];intro d hd e;have:=h d hd
 simp only[wu,Bool.and_eq_true,decide_eq_true_eq]at e;omega
theorem Dn (up:Int) (sl:Pd→List Int) (ds es:List Pd):ij up sl (ds++es)=ij up sl ds++ij up sl es:=by
 unfold ij;rw[List.filter_append,List.map_append]
theorem wB (a:Option Addr) (H:Hp):∀u:List Int,(∀p ∈ u,∃j:Nat,p=j∧2*H.half≤(j:Int))→ij (2*H.half) (slP H.row) (gi (dR a H.row u))=u.filter (fun p=>(slotsOf H p).any (eR H))
 | [],_=>rfl
 |p :: u,h=>by
  have ih:=wB a H u (fun q hq=>h q (List.mem_cons_of_mem _ hq));obtain⟨j,rfl,hj⟩:=h p (List.mem_cons_self ..);have e0:dR a H.row ((j:Int) :: u)=iP a H.row j :: dR a H.row u:=by unfold dR;simp
  rw[e0];by_cases h6:uF (H.row.getD j 0)=6
  ·have e1:gi (iP a H.row j :: dR a H.row u)=gi (dR a H.row u):=by
     unfold gi;rw[List.filter_cons_of_neg];show ¬(!(uF (H.row.getD j 0)==6))=true
     rw[h6];decide
   rw[e1,ih,List.filter_cons_of_neg];rw[tq (by simpa using h6)];simp
  ·have e1:gi (iP a H.row j :: dR a H.row u)=iP a H.row j :: gi (dR a H.row u):=by
     unfold gi;rw[List.filter_cons_of_pos];show (!(uF (H.row.getD j 0)==6))=true
     simpa using h6
   have e2:wu (2*H.half) (slP H.row) (iP a H.row j)=(slotsOf H j).any (eR H):=by
    unfold wu;rw[ey,decide_eq_true hj,Bool.true_and,Dm a H j h6];rfl
   rw[e1];unfold ij at ih ⊢;cases e3:(slotsOf H j).any (eR H)
   ·rw[List.filter_cons_of_neg (by rw[e2,e3];decide),List.filter_cons_of_neg (by rw[e3];decide)];exact ih
   ·rw[List.filter_cons_of_pos (by rw[e2];exact e3),List.filter_cons_of_pos (by exact e3),List.map_cons,ih,ey]
theorem Dp {a:Option Addr} {H:Hp} (hn:kV H=true) (hr:eX a H=true):ij (2*H.half) (slP H.row) (aG a H)=jF H:=by
 obtain⟨r,u,e1,e2,e3,e4⟩:=mX hn hr;obtain⟨half,old,top,fr,q1,q2,q3,q4,q5,q6,q7,q8,h1,h2,h3,h4⟩:=mW hn
 have m1:∀p ∈ r,∃j:Nat,p=j∧j<2*half:=fun p hp=>by
  obtain⟨j,e,_,b,_⟩:=gp (by rw[q8,q7];omega) e1 hp;rw[q8,q7]at b;exact⟨j,e,by omega⟩
 have m2:∀p ∈ u,∃j:Nat,p=j∧2*H.half≤(j:Int):=fun p hp=>by
  obtain⟨j,e,b,_,_⟩:=gp (by rw[q5,q6];omega) e2 hp;rw[q5]at b;exact⟨j,e,by rw[q1];omega⟩
 rw[e4,Dn,wB a H u m2,F5,List.nil_append]
 ·unfold jF;rw[e2];rfl
 ·intro d hd;obtain⟨p,hp,rfl⟩:=List.mem_map.1 hd;obtain⟨j,rfl,hj⟩:=m1 p hp;rw[Int.toNat_natCast,ey,q1];omega
def DB (H:Hp) (ds:List Pd):Bool:=(decide (H.roots.length=6)&&decide (H.a7.length≤40))&&(H.a7.all isA&&gU ds H.roots&&gU ds H.a7)
def kn (a:Option Addr) (H:Hp):Bool:=kV H&&(eX a H&&gV (aG a H) (slP H.row)&&dZ H ((aG a H).map (·.pl))&&DB H (aG a H))
theorem Dq (f g:Int→Bool) (xs:List Int):xs.all (fun x=>f x&&g x)=(xs.all f&&xs.all g):=by
 induction xs with
 |nil=>rfl
 |cons x xs ih=>
  simp only[List.all_cons,ih];cases f x<;>cases g x<;>cases xs.all f<;>cases xs.all g<;>rfl
theorem yo {a:Option Addr} {H:Hp} {ps:List Int} {ds:List Pd} (h:pA a H ps ds) (hN:uv H ps) (hs:dO H ps=true):uv H (ds.map (·.pl)):=by
 intro p hp h7;obtain⟨d,hd,rfl⟩:=List.mem_map.1 hp;obtain⟨j,rfl,hj,h6⟩:=h.ofD d hd;rw[ey]at h7 ⊢;obtain⟨n1,n2,n3⟩:=hN _ hj h7;refine⟨n1,n2,?_⟩
 rw[Int.toNat_natCast]at n1 n2 n3 h7 ⊢
 have hw:aP H ps (H.row.getD (j+1) 0)=true:=by
  unfold dO at hs;rw[List.all_eq_true]at hs;have:=hs _ hj
  rw[List.all_eq_true]at this;refine this _ ?_;unfold slotsOf cnS;rw[Int.toNat_natCast,if_pos h7,List.mem_iff_getElem?];refine⟨0,?_⟩
  rw[List.getElem?_take,if_pos (by decide),List.getElem?_drop,Nat.add_zero,List.getElem?_eq_getElem n1,List.getD_eq_getElem?_getD,List.getElem?_eq_getElem n1];rfl
 rw[←h.word]at hw;unfold jk at hw;rw[n2,if_pos rfl]at hw;unfold rM at hw;rw[List.any_eq_true]at hw;obtain⟨d,hd,e⟩:=hw;exact List.mem_map.2 ⟨d,hd,by simpa using e⟩
theorem pL (a:Option Addr) (H:Hp):kn a H=rightB H:=by
 unfold kn;cases hn:kV H
 ·rw[Bool.false_and];unfold rightB bO
  have:rE H=true:=by
   cases e:rE H
   ·have:=(pK H).1 e
    rw[hn]at this;cases this.1
   ·rfl
  rw[if_pos this]
 rw[Bool.true_and];cases hr:eX a H
 ·rw[Bool.false_and,Bool.false_and,Bool.false_and];unfold rightB bO;rw[Dl hn hr];split<;>simp_all
 rw[Bool.true_and];obtain⟨r,u,e1,e2,e3,e4⟩:=mX hn hr;by_cases hl:H.roots.length=6∧H.a7.length≤40
 ·have hb:rE H=false:=(pK H).2 ⟨hn,hl⟩;have hR:bO H=some (r++u):=by unfold bO;rw[if_neg (by rw[hb];decide),e3]
  have RM:=zq hn hr e3 hR;unfold rightB;rw[hR];simp only;rw[RM.slots];cases hs:dO H (r++u)
  ·rfl
  ·have hN:=tL RM.plc hs
   have hE:dZ H ((aG a H).map (·.pl))=dZ H (r++u):=by
    have k1:=RM.ends hN;have k2:=mY (yo RM hN hs)
    have key:dZ H ((aG a H).map (·.pl))=true↔dZ H (r++u)=true:=by
     rw[k1,k2];constructor
     ·intro g i hi;exact g _ (List.mem_map.2 ⟨_,bj hi,rfl⟩)
     ·intro g p hp;obtain⟨d,hd,rfl⟩:=List.mem_map.1 hp;obtain⟨i,hi,rfl⟩:=List.getElem_of_mem hd;have:=g i hi
      rwa [List.getD_eq_getElem?_getD,List.getElem?_eq_getElem hi]at this
    cases q1:dZ H ((aG a H).map (·.pl))
    ·cases q2:dZ H (r++u)
     ·rfl
     ·rw[key.2 q2]at q1;cases q1
    ·exact (key.1 q1).symm
   rw[hE];unfold DB iK;rw[decide_eq_true hl.1,decide_eq_true hl.2,RM.list,RM.list,Dq];cases dZ H (r++u)<;>cases H.a7.all isA<;>cases H.roots.all (aP H (r++u))<;>cases H.a7.all (aP H (r++u))<;>rfl
 ·have hb:rE H=true:=by
    cases e:rE H
    ·exact absurd ((pK H).1 e).2 hl
    ·rfl
  have hR:bO H=none:=by unfold bO;rw[if_pos hb]
  unfold rightB;rw[hR]
  have:DB H (aG a H)=false:=by
   unfold DB;rw[Bool.and_eq_false_iff];left
   rw[Bool.and_eq_false_iff];by_cases q:H.roots.length=6
   ·right;exact decide_eq_false (fun q2=>hl ⟨q,q2⟩)
   ·left;exact decide_eq_false q
  rw[this,Bool.and_false]
def okB (a:Option Addr) (H:Hp):Bool:=kn a H&&decide (H.seen=ij (2*H.half) (slP H.row) (aG a H))
theorem jv {a:Option Addr} {H:Hp} (h:kn a H=true):kV H=true∧eX a H=true∧gV (aG a H) (slP H.row)=true∧dZ H ((aG a H).map (·.pl))=true∧DB H (aG a H)=true:=by
 unfold kn at h;simp only[Bool.and_eq_true]at h;exact⟨h.1,h.2.1.1.1,h.2.1.1.2,h.2.1.2,h.2.2⟩
theorem Iv (a:Option Addr) (H:Hp):okB a H=dv H:=by
 unfold okB dv;cases e:kn a H
 ·rw[←pL a H,e];rfl
 ·obtain⟨hn,hr,_⟩:=jv e;rw[←pL a H,e,Dp hn hr]
end Go.Proofs.YtocidankimefpaaGreatDoor.hp
namespace Go.Proofs.YtocidankimefpaaGreatDoor.hp
open Go.RowKit rows heads words walks region
set_option maxHeartbeats 1000000 in
theorem AG {w:World} {v1 v2:Value} {xs ys:List Int} (h1:au w v1 xs) (h2:au w v2 ys) (hl:xs.length≤1048576) :
    Calls Tryz.prog 40 #[v1,v2] w fun e w'=>e = .returned (.bool (decide (xs=ys)))∧∃n,w'=w.drewN n:=by
 obtain⟨a,cap,rfl,hlc,hcm,_,hc⟩:=h1;obtain⟨a',cap',rfl,hlc',hcm',_,hc'⟩:=h2;by_cases hn:xs.length=ys.length
 ·have HC:Hid (0<xs.length→∃b off,a=some ⟨b,off,none⟩∧b<w.heap.size∧∀i,i<xs.length→w.cell? ⟨b,off+i,none⟩=some (.int .i64 (xs.getD i 0))):=hc;have HC':Hid (0<ys.length→∃b off,a'=some ⟨b,off,none⟩∧b<w.heap.size∧∀i,i<ys.length→w.cell? ⟨b,off+i,none⟩=some (.int .i64 (ys.getD i 0))):=hc';clear hc hc';have hni:(xs.length:Int)=(ys.length:Int):=by omega
  go_enter Tryz.func40,Tryz.ntmps40;go_wp2_with fail;go_loopw [5] (fun i wr=>∃k n:Nat,k≤xs.length∧i = .int .i64 k∧xs.take k=ys.take k∧wr=w.drewN n) (fun i _=>xs.length-(intOf i).toNat);case atStart=>exact⟨0,0,Nat.zero_le _,rfl,by simp,rfl⟩
  case round=>
   obtain⟨k,n,hk,rfl,ht,rfl⟩:=hrel;by_cases hlt:k<xs.length
   ·obtain⟨b,off,rfl,hb,hc⟩:=HC.out (by omega);obtain⟨b',off',rfl,hb',hc'⟩:=HC'.out (by omega);have c0:=hc k hlt;have c1:=hc' k (by omega);have HT:Hid (xs.getD k 0=ys.getD k 0→xs.take (k+1)=ys.take (k+1)):=fun e=>oA ht hlt (by omega) e
    have HN:Hid (¬xs.getD k 0=ys.getD k 0→decide (xs=ys)=false):=fun e=>by simp only[decide_eq_false_iff_not];intro e';subst e';exact e rfl
    clear hc hc' ht HC HC';have hlt':k<ys.length:=by omega
    generalize xs.getD k 0=x at *;generalize ys.getD k 0=y at *;by_cases hxy:x=y
    ·go_wp2;go_quiet (fail);go_wp2;exact⟨⟨k+1,n+nq,by omega,by go_num,HT hxy,rfl⟩,by simp[intOf];omega⟩
    ·go_wp2;go_quiet (fail);go_wp2;go_ret;exact⟨by rw[HN hxy];rfl,n+nq,by rw[World.drewN_drewN]⟩
   ·have e:xs=ys:=by
      have e1:xs.take k=xs:=List.take_of_length_le (by omega);have e2:ys.take k=ys:=List.take_of_length_le (by omega);rw[←e1,ht,e2]
    have HE:Hid (decide (xs=ys)=true):=by show _=true;simpa using e
    clear ht e HC HC';go_wp2;go_ret;exact⟨by rw[HE.out];rfl,_,rfl⟩
 ·have hni:¬(xs.length:Int)=(ys.length:Int):=by omega
  clear hc hc';go_enter Tryz.func40,Tryz.ntmps40;go_wp2;go_ret;exact⟨by rw[decide_eq_false (fun e=>hn (by rw[e]))];rfl,0,rfl⟩
theorem wC (xs:List Int) (t:Nat):∀(n k:Nat) (l:List Int),walkL xs t n k=some l→eN l∧∀x ∈ l,(k:Int)≤x:=by
 intro n;induction n with
 |zero=>
  intro k l h;unfold walkL at h;split at h
  ·cases h
  ·cases h;exact⟨List.Pairwise.nil,fun x hx=>by cases hx⟩
 |succ n ih=>
  intro k l h;by_cases h1:k<t
  ·by_cases hb:chunk xs k=0∨(k:Int)+chunk xs k > t
   ·rw[fD _ _ _ _ h1 hb]at h;cases h
   ·have:=aR xs k
    rw[dL _ _ _ _ h1 hb]at h;obtain⟨l',hl',rfl⟩:=Option.map_eq_some_iff.1 h;obtain⟨i1,i2⟩:=ih _ _ hl';refine⟨List.pairwise_cons.2 ⟨fun a ha => ?_,i1⟩,fun x hx => ?_⟩
    ·have:=i2 a ha;omega
    ·rcases List.mem_cons.1 hx with rfl|hx
     ·omega
     ·have:=i2 x hx;omega
  ·rw[ew _ _ _ _ h1]at h;cases h;exact⟨List.Pairwise.nil,fun x hx=>by cases hx⟩
theorem oQ {xs:List Int} {f t:Nat} {l:List Int} (h:fV xs f t=some l):eN l:=(wC xs t _ _ _ h).1
theorem yp {l:List Int} (h:eN l) {k:Nat} (hk:k<l.length):∀x ∈ l.take k,x<l.getD k 0:=by
 intro x hx;obtain⟨i,hi,rfl⟩:=List.getElem_of_mem hx;rw[List.length_take]at hi;rw[List.getElem_take,List.getD_eq_getElem?_getD,List.getElem?_eq_getElem hk];exact List.pairwise_iff_getElem.1 h i k (by omega) hk (by omega)
theorem wD:∀ {xs:List Int} {n:Int},(∀x ∈ xs,x<n)→putI n xs=xs++[n]
 | [],n,_=>rfl
 |x :: xs,n,h=>by
  have h1:=h x (by simp);unfold putI;rw[if_pos h1,wD (fun y hy=>h y (by simp[hy]))];rfl
theorem tu:∀ {xs:List Int} {n:Int},(∀x ∈ xs,x<n)→putI n (xs++[n])=xs++[n]
 | [],n,_=>by simp[putI]
 |x :: xs,n,h=>by
  have h1:=h x (by simp);show putI n (x :: (xs++[n]))=_
  unfold putI;rw[if_pos h1,tu (fun y hy=>h y (by simp[hy]))];rfl
def oi (H:Hp) (p:Int):Bool:=(slotsOf H p).any (eR H)
theorem F7 (H:Hp):jF H=((upW H).getD []).filter (oi H):=rfl
def seenAt (H:Hp) (u:List Int) (k i:Nat):List Int:=(u.take k).filter (oi H)++(if ((slotsOf H (u.getD k 0)).take i).any (eR H)=true then [u.getD k 0] else [])
theorem yq (H:Hp) (u:List Int) (k:Nat):seenAt H u k 0=(u.take k).filter (oi H):=by simp[seenAt]
theorem AH {H:Hp} {u:List Int} {k i:Nat} (hk:k<u.length) (hi:(slotsOf H (u.getD k 0)).length≤i):seenAt H u k i=(u.take (k+1)).filter (oi H):=by
 unfold seenAt;rw[List.take_of_length_le hi]
 have:(u.take (k+1)).filter (oi H)=(u.take k).filter (oi H)++(if oi H (u.getD k 0)=true then [u.getD k 0] else []):=by
  rw[List.take_add_one,List.filter_append,List.getElem?_eq_getElem hk,List.getD_eq_getElem?_getD,List.getElem?_eq_getElem hk];simp only[Option.toList_some,Option.getD_some];congr 1
  cases h:oi H u[k]<;>simp[h]
 rw[this];rfl
theorem zv {xs:List Int} {f:Int→Bool} {i:Nat} (hi:i<xs.length):(xs.take (i+1)).any f=((xs.take i).any f || f (xs.getD i 0)):=by
 rw[List.take_add_one,List.any_append,List.getElem?_eq_getElem hi,List.getD_eq_getElem?_getD,List.getElem?_eq_getElem hi];simp
theorem Dr {H:Hp} {u:List Int} {k i:Nat} (hi:i<(slotsOf H (u.getD k 0)).length) (h:eR H ((slotsOf H (u.getD k 0)).getD i 0)=false):seenAt H u k (i+1)=seenAt H u k i:=by
 unfold seenAt;rw[zv hi,h,Bool.or_false]
theorem AJ {H:Hp} {u:List Int} (hr:eN u) {k i:Nat} (hk:k<u.length) (hi:i<(slotsOf H (u.getD k 0)).length) (h:eR H ((slotsOf H (u.getD k 0)).getD i 0)=true):putI (u.getD k 0) (seenAt H u k i)=seenAt H u k (i+1):=by
 have hlt:∀x ∈ (u.take k).filter (oi H),x<u.getD k 0:=fun x hx=>yp hr hk x (List.mem_filter.1 hx).1
 unfold seenAt;rw[zv hi,h,Bool.or_true,if_pos rfl];split
 ·exact tu hlt
 ·rw[List.append_nil];exact wD hlt
theorem AK {H:Hp} {u:List Int} {k i:Nat}:(seenAt H u k i).length≤u.length+1:=by
 unfold seenAt;have:=List.length_filter_le (oi H) (u.take k)
 rw[List.length_take]at this;rw[List.length_append];split<;>simp<;>omega
set_option maxHeartbeats 16000000 in
theorem AN {w:World} {vr vo vm vs:Value} {H:Hp} (h:eW w vr vo vm vs H) (N:EG H) {u:List Int} (hu:upW H=some u) :
    Calls Tryz.prog 41 #[hpv H vr vo vm vs] w fun e w'=>∃v',e = .returned v'∧rows.Own w' w.heap.size v' (jF H)∧Below w.heap.size w w':=by
 obtain⟨R,hR⟩:∃R,jF H=R:=⟨_,rfl⟩
 rw[hR];have hR':u.filter (oi H)=R:=by rw[←hR,F7,hu];rfl
 have HRV:Hid _:=hR';clear hR hR';have hl:=N.len;have n1:=N.half1;have n2:=N.old1;have HRis:Hid (eN u):=oQ hu
 have HPC:Hid (∀p ∈ u,∃j:Nat,p=j∧j<H.row.length∧chunk H.row j≠0):=fun p hp=>by
  obtain⟨j,e,_,a,b⟩:=gp (by omega) hu hp;exact⟨j,e,by omega,b⟩
 have hul:=(ic (by omega) hu).1;have hul':u.length≤1000:=by omega
 obtain⟨a1,c1,a2,c2,a3,c3,a4,c4,e1,e2,e3,e4⟩:=aK h;subst e1 e2 e3 e4;have B0:Below w.heap.size w ((w.alloc (hpb H (.slice a1 H.row.length c1) (.slice a2 H.roots.length c2) (.slice a3 H.a7.length c3) (.slice a4 H.seen.length c4))).alloc (.cells #[] 2)):=((Below.refl _ _).alloc (Nat.le_refl _) _).alloc (by simp) _;have HO0:Hid (rows.Own ((w.alloc (hpb H (.slice a1 H.row.length c1) (.slice a2 H.roots.length c2) (.slice a3 H.a7.length c3) (.slice a4 H.seen.length c4))).alloc (.cells #[] 2)) w.heap.size (.slice (some ⟨w.heap.size+1,0,none⟩) 0 0) []):=iE (by simp) (by omega);have T0:Ip ((w.alloc (hpb H (.slice a1 H.row.length c1) (.slice a2 H.roots.length c2) (.slice a3 H.a7.length c3) (.slice a4 H.seen.length c4))).alloc (.cells #[] 2)) w.heap.size H (.slice a1 H.row.length c1) (.slice a2 H.roots.length c2) (.slice a3 H.a7.length c3) (.slice a4 H.seen.length c4):=ai (de w H _ _ _ _) ((Below.refl _ _).alloc (Nat.le_refl _) _);obtain⟨⟨z0,z1,z2,z3,z4⟩,⟨z5,z6,z7,z8⟩,_⟩:=ag T0;have HT0:Hid _:=T0;have HB0:Hid _:=B0;have HH0:Hid _:=aD h B0;have eH:=N.half;have eO:=N.old;rw[eH]at z0;rw[eO]at z1;have WK:=nL (aD h B0).1 (by omega) (2*hf H) (2*hf H+od H) (by omega);rw[show fV H.row (2*hf H) (2*hf H+od H)=some u from hu]at WK;have HHf:Hid (-1000≤H.half∧H.half≤1000):=⟨by omega,by omega⟩;have rowl:H.row.length≤800:=by omega
 generalize hf H=F at *;generalize od H=D at *;obtain⟨M,hM⟩:∃M:Nat,2*F=M:=⟨_,rfl⟩
 obtain⟨T,hT⟩:∃T:Nat,M+D=T:=⟨_,rfl⟩
 have eM:2*(F:Int)=(M:Int):=by omega
 have eTT:(M:Int)+(D:Int)=(T:Int):=by omega
 rw[hM,hT]at WK;have bF:F≤200:=n1.2.1;have bD:D≤400:=n2.2.1;have bM:M≤400:=by omega
 clear B0 T0 h N hu hl n1 n2 eH eO hM hT hul;go_enter Tryz.func41,Tryz.ntmps41;go_wp2_with fail;generalize ((w.alloc (hpb H (.slice a1 H.row.length c1) (.slice a2 H.roots.length c2) (.slice a3 H.a7.length c3) (.slice a4 H.seen.length c4))).alloc (.cells #[] 2))=X at *;refine WK.mono ?_;clear WK;rintro e w1 ⟨vu,rfl,O1,b1⟩;have HO1:Hid (rows.Own w1 X.heap.size vu u):=O1;obtain⟨pa,pc,rfl,hp1,hp2,_,_⟩:=aj O1;have HT1:Hid _:=ai HT0.out b1;have HH1:Hid (eW w1 (.slice a1 H.row.length c1) (.slice a2 H.roots.length c2) (.slice a3 H.a7.length c3) (.slice a4 H.seen.length c4) H):=aD HH0.out b1;have HB1:Hid _:=HB0.out.trans (b1.mono HB0.out.size);have HE1:Hid _:=aB HO0.out b1;have hwlt:=lt_of_block HT1.out;clear O1 b1 HT0 HH0 HB0 HO0 z0 z1 z2 z3 z4 z5 z6 z7 z8 eM eTT;go_wp2_with fail;go_loopw [3,6] (fun o p wr=>∃(k:Nat) (v:Value),v=o∧k≤u.length∧p = .int .i64 (k:Int)∧rows.Own wr w.heap.size v ((u.take k).filter (oi H))∧Below w1.heap.size w1 wr) (fun _ p _=>u.length-(intOf p).toNat);case atStart=>exact⟨0,_,rfl,Nat.zero_le _,rfl,HE1.out,Below.refl _ _⟩
 case round=>
  obtain⟨k,v,rfl,hk,rfl,hO,hB⟩:=hrel;clear HE1;by_cases hlt:k<u.length
  ·have hlt':(k:Int)<(u.length:Int):=by omega
   have T5:=ai HT1.out hB;have Row5:=aa HH1.out.1 hB;have R5:=aB HO1.out hB;obtain⟨j,hj,hjl,hch⟩:=HPC.out (u.getD k 0) (by rw[List.getD_eq_getElem?_getD,List.getElem?_eq_getElem hlt];exact List.getElem_mem hlt);obtain⟨lb,lo,ev,hlb,x0⟩:=bp (aj R5) hlt;subst ev;rw[hj]at x0;have HJ:Hid _:=hj;obtain⟨⟨z0,z1,z2,z3,z4⟩,⟨z5,z6,z7,z8⟩,_⟩:=ag T5;have hcs:=ee hch;have HSL:Hid _:=mu (H:=H) hch;obtain⟨cn,hcn⟩:∃cn:Nat,cnS (H.row.getD j 0)=(cn:Int):=⟨(cnS (H.row.getD j 0)).toNat,by omega⟩
   rw[hcn]at hcs HSL;rw[Int.toNat_natCast]at HSL;have HSG:Hid (∀i,i<cn→(slotsOf H (j:Int)).getD i 0=H.row.getD (j+1+i) 0):=fun i hi=>nK (by rw[hcn,Int.toNat_natCast];exact hi)
   have HLC:Hid (∀W,Calls Tryz.prog 84 #[hv (uS (H.row.getD j 0)) (uF (H.row.getD j 0)) (uC (H.row.getD j 0)) (uH (H.row.getD j 0)) (uP (H.row.getD j 0)) (uM (H.row.getD j 0))] W fun e w'=>e = .returned (.int .i64 (cn:Int))∧Below W.heap.size W w'):=fun W=>(qE _ _ _ _ _ _ W).mono fun e w' ⟨he,hw⟩=>⟨by rw[he,←hcn];rfl,by rw[hw];exact (Below.refl _ _).alloc (Nat.le_refl _) _⟩
   have bcn:(j:Int)+1+cn≤H.row.length:=hcs.2;have HOV:Hid _:=hO;obtain⟨oa,on,oc,rfl⟩:=bl (aj hO);clear hj hcs hcn hO;have BA:=(Below.refl wr.heap.size wr).alloc (Nat.le_refl _) (hb 0 0 0 0 false false);have z2':=(BA.cell (p:=⟨w.heap.size,2,none⟩) (World.block_lt_of_cell? _ _ z2)).trans z2;have x0':=(BA.cell (p:=⟨lb,lo+k,none⟩) hlb).trans x0;have HL4:Hid (∀W,Below wr.heap.size wr W→Calls Tryz.prog 45 #[.slice a1 H.row.length c1,.int .i64 (j:Int)] W fun e w'=>e = .returned (hv (uS (H.row.getD j 0)) (uF (H.row.getD j 0)) (uC (H.row.getD j 0)) (uH (H.row.getD j 0)) (uP (H.row.getD j 0)) (uM (H.row.getD j 0)))∧Below W.heap.size W w'):=fun W hW=>eD (aa Row5 hW) j hjl
   have HA:Hid (∀W,Below (wr.alloc (hb 0 0 0 0 false false)).heap.size (wr.alloc (hb 0 0 0 0 false false)) W→bK W wr.heap.size 0 0 0 0 false false):=fun W hW=>bG (cH wr 0 0 0 0 false false) hW
   have HBA:Hid _:=BA;have HBz:Hid _:=hB;clear T5 Row5 R5 hB BA;generalize uF (H.row.getD j 0)=f at *;generalize uS (H.row.getD j 0)=s at *;generalize uC (H.row.getD j 0)=c at *;generalize uH (H.row.getD j 0)=g at *;generalize uP (H.row.getD j 0)=p at *;generalize uM (H.row.getD j 0)=m at *;go_upto_region 6 with fail
   go_cut [6,7] from 25 to 62 (fun i q wy=>i = .int .i64 (k:Int)∧∃B,q = .pointer (some ⟨B,0,none⟩)∧bK wy B s f c g p m∧Below wr.heap.size wr wy)
   case first=>
    go_region_law (first
     |(go_simp;go_at_call 45;refine (HL4.out _ HBA.out.drew).mono ?_;clear HL4;rintro e w6 ⟨rfl,b6⟩;have b7:Below (wr.alloc (hb 0 0 0 0 false false)).heap.size (wr.alloc (hb 0 0 0 0 false false)) w6:=⟨b6.os,b6.tape,b6.output,b6.size,b6.block⟩;have TA:=HA.out w6 b7;obtain⟨t0',t1',t2',t3',t4',t5',tf⟩:=aO TA;have f0:=tf 0;have f1:=tf 1;have f2:=tf 2;have f3:=tf 3;have f4:=tf 4;have f5:=tf 5;have HEnd:Hid _:=And.intro (jK TA s f c g p m) (fk (HBA.out.trans (b7.mono HBA.out.size)) (Nat.le_refl wr.heap.size) s f c g p m);clear b6 b7 TA tf)
     |(go_simp;go_at_call 45;refine (HL4.out _ (Below.refl _ _).drew).mono ?_;clear HL4;rintro e w6 ⟨rfl,b6⟩;have b7:Below wr.heap.size wr w6:=⟨b6.os,b6.tape,b6.output,b6.size,b6.block⟩;have HEnd:Hid _:=And.intro (cH w6 s f c g p m) (b7.alloc b7.size (hb s f c g p m));clear b6 b7))
    all_goals (go_wp2_with fail)
    all_goals go_meet
    all_goals exact⟨rfl,_,rfl,HEnd.out.1,HEnd.out.2⟩
   obtain⟨rfl,B,rfl,hHd,hBy⟩:=hcut;have HHd:Hid _:=hHd;have HB7:Hid (Below w1.heap.size w1 wc):=HBz.out.trans (hBy.mono HBz.out.size);have HO7:Hid (rows.Own wc w.heap.size (.slice oa on oc) (seenAt H u k 0)):=by show rows.Own _ _ _ _;rw[yq];exact aB HOV.out hBy
   clear z0 z1 z2 z3 z4 z5 z6 z7 z8 z2' x0 x0' HL4 HA HBA hHd hBy HBz HOV;go_wp2_with fail;go_loopw [3,8] (fun o q wr=>∃(i:Nat) (v:Value),v=o∧i≤cn∧q = .int .i64 (i:Int)∧rows.Own wr w.heap.size v (seenAt H u k i)∧Below wc.heap.size wc wr) (fun _ q _=>cn-(intOf q).toNat);case atStart=>exact⟨0,_,rfl,Nat.zero_le _,rfl,HO7.out,Below.refl _ _⟩
   case round=>
    obtain⟨i,v,rfl,hi,rfl,hO2,hB2⟩:=hrel;clear HO7;have T6:=bG HHd.out hB2;have HB8:Hid (Below w1.heap.size w1 wr):=HB7.out.trans (hB2.mono HB7.out.size);have HBwc:Hid _:=hB2;obtain⟨t0',t1',t2',t3',t4',t5',_⟩:=aO T6;have HOV:Hid _:=hO2;obtain⟨oa',on',oc',rfl⟩:=bl (aj hO2);clear T6 hB2 hO2;by_cases hil:i<cn
    ·have hil':(i:Int)<(cn:Int):=by omega
     go_wp2_with fail;refine (HLC.out _).mono ?_;rintro e w4 ⟨rfl,b4⟩;have B9:Below w1.heap.size w1 w4:=HB8.out.trans (b4.mono HB8.out.size);have B10:=b4;have HOV4:Hid _:=aB HOV.out b4;clear t0' t1' t2' t3' t4' t5' b4 HOV;have T7:=ai HT1.out B9;have H7:=aD HH1.out B9;have O7:=aB HO1.out B9;go_upto_region 10 with fail
     obtain⟨⟨z0,z1,z2,z3,z4⟩,⟨z5,z6,z7,z8⟩⟩:=dn T7;obtain⟨rb,ro,erb,hrb,y0⟩:=bp H7.1 (k:=j+1+i) (by omega);obtain⟨lb',lo',elb,hlb',y1⟩:=bp (aj O7) hlt;have elb1:lb'=lb:=by injection elb with e;injection e with e1 e2;exact e1.symm
     have elb2:lo'=lo:=by injection elb with e;injection e with e1 e2;exact e2.symm
     subst elb1 elb2;subst erb;rw[HJ.out]at y1;have Y0:=dU y0;have Y1:=dU y1;have HWD:Hid (∀x:Ext w4.heap.size w4,Calls Tryz.prog 89 #[hpv H (.slice (some ⟨rb,ro,none⟩) H.row.length c1) (.slice a2 H.roots.length c2) (.slice a3 H.a7.length c3) (.slice a4 H.seen.length c4),.int .i64 (H.row.getD (j+1+i) 0)] x.to fun e w''=>e = .returned (.bool (eR H (H.row.getD (j+1+i) 0)))∧∃y:Ext w4.heap.size w4,w''=y.to):=fun x=>bJ (Nat.le_refl _) (yt (aD H7 x.below) HHf.out _)
     have HB9:Hid _:=B9;clear T7 H7 O7 y0 y1 B9;obtain⟨wv,hwv⟩:∃wv,eR H (H.row.getD (j+1+i) 0)=wv:=⟨_,rfl⟩
     rw[hwv]at HWD;have HWV:Hid (eR H ((slotsOf H (u.getD k 0)).getD i 0)=wv):=by show _=_;rw[HJ.out,HSG.out i hil];exact hwv
     clear hwv;generalize H.row.getD (j+1+i) 0=yy at *;have i1:((j:Int)+1+(i:Int)).toNat=j+1+i:=by omega
     have i2:(0:Int)≤(j:Int)+1+(i:Int):=by omega
     have i3:(j:Int)+1+(i:Int)<(H.row.length:Int):=by omega
     haveI:=fA w4
     refine bY (n:=w4.heap.size) (by kernel_rfl) (by kernel_rfl) ?_;repeat (go_big_quiet_step ((go_at_call 89;exact HWD.out _)))
     refine wpQuiet_nil ?_;intro _ hw';obtain⟨x,rfl⟩:=hw';have HBx:Hid (Below w1.heap.size w1 x.to):=HB9.out.trans (x.below.mono HB9.out.size);have HBy:Hid (Below wc.heap.size wc x.to):=(HBwc.out.trans (B10.mono HBwc.out.size)).trans (x.below.mono ((HBwc.out.trans (B10.mono HBwc.out.size)).size));have HOX:Hid _:=aB HOV4.out x.below;have y1:=Y1 x;clear z0 z1 z2 z3 z4 z5 z6 z7 z8 Y0 Y1 HWD B10 HOV4;generalize x.to=W at *;clear x this;cases wv with
     |false=>
      have HV:Hid (rows.Own W w.heap.size (.slice oa' on' oc') (seenAt H u k (i+1))):=by show rows.Own _ _ _ _;rw[Dr (by rw[HJ.out,HSL.out];exact hil) HWV.out];exact HOX.out
      clear HOX HWV;go_wp2;exact⟨⟨i+1,_,rfl,by omega,by go_num,HV.out,HBy.out⟩,by simp[intOf];omega⟩
     |true=>
      have hbw:w.heap.size≤W.heap.size:=(HB1.out.trans (HBx.out.mono HB1.out.size)).size;have PU:=iZ HOX.out hbw (Nat.le_trans AK (by omega)) (u.getD k 0);rw[AJ HRis.out hlt (by rw[HJ.out,HSL.out];exact hil) HWV.out,HJ.out]at PU;clear HOX HWV hbw;go_wp2_with fail;refine PU.mono ?_;clear PU;rintro e w5 ⟨v5,rfl,O5,b5⟩;have HO5:Hid _:=O5;have HB5:Hid (Below wc.heap.size wc w5):=HBy.out.trans (b5.mono HBy.out.size);obtain⟨a5,n5,c5,rfl⟩:=bl (aj O5);clear O5 b5 y1;go_wp2;exact⟨⟨i+1,_,rfl,by omega,by go_num,HO5.out,HB5.out⟩,by simp[intOf];omega⟩
    ·have hil':¬(i:Int)<(cn:Int):=by omega
     go_wp2_with fail;refine (HLC.out _).mono ?_;rintro e w4 ⟨rfl,b4⟩;have HB9:Hid (Below w1.heap.size w1 w4):=HB8.out.trans (b4.mono HB8.out.size)
     have HV:Hid (rows.Own w4 w.heap.size (.slice oa' on' oc') ((u.take (k+1)).filter (oi H))):=by
      show rows.Own _ _ _ _
      rw[←AH (i:=i) hlt (by rw[HJ.out,HSL.out];omega)];exact aB HOV.out b4
     clear t0' t1' t2' t3' t4' t5' b4 HOV;go_wp2;exact⟨⟨k+1,_,rfl,by omega,by go_num,HV.out,HB9.out⟩,by simp[intOf];omega⟩
  ·have hlt':¬(k:Int)<(u.length:Int):=by omega
   have HV:Hid (rows.Own wr w.heap.size v R):=by
    show rows.Own _ _ _ _
    rw[←HRV.out];have:=hO
    rwa [List.take_of_length_le (show u.length≤k by omega)]at this
   have HBE:Hid _:=HB1.out.trans (hB.mono HB1.out.size);obtain⟨oa,on,oc,rfl⟩:=bl (aj hO);clear hO hB;go_wp2;go_ret;exact⟨_,rfl,HV.out,HBE.out⟩
end Go.Proofs.YtocidankimefpaaGreatDoor.hp
