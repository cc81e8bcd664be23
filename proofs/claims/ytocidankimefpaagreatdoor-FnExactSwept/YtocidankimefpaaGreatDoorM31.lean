/-
  Chapter 15 as the program has it: does all that is marked lead to what is marked? Chapter 10 as the program has it: a heap made straight, its memory.
-/
import Derived.Test.YtocidankimefpaaGreatDoorSwpI1
import Derived.Test.YtocidankimefpaaGreatDoorM21
import Derived.Stop.IfaceNil
import Derived.Test.YtocidankimefpaaGreatDoorM26
import Derived.Test.YtocidankimefpaaGreatDoorM30
import Derived.Test.YtocidankimefpaaGreatDoorM27
namespace Go.Proofs.YtocidankimefpaaGreatDoor.hp
open Go.RowKit rows heads words walks
set_option maxRecDepth 100000
set_option linter.unusedVariables false
set_option linter.unusedSimpArgs false
theorem clP_yes {H:Hp} {L:List Int} (h:∀p ∈ L,∀k,k<(slotsOf H p).length→lostW H L ((slotsOf H p).getD k 0)=false):isClP H L=true:=by
 unfold isClP
 rw[List.all_eq_true]
 intro p hp
 rw[List.all_eq_true]
 intro x hx
 obtain⟨k,hk,rfl⟩:=List.getElem_of_mem hx
 have:=h p hp k hk
 rw[List.getD_eq_getElem?_getD,List.getElem?_eq_getElem hk]at this
 have e:lostW H L (slotsOf H p)[k]=false:=this
 rw[e]
 rfl
theorem clP_no {H:Hp} {L:List Int} {p:Int} {k:Nat} (hp:p ∈ L) (hk:k<(slotsOf H p).length) (h:lostW H L ((slotsOf H p).getD k 0)=true):isClP H L=false:=by
 have hx:(slotsOf H p).getD k 0 ∈ slotsOf H p:=by rw[List.getD_eq_getElem?_getD,List.getElem?_eq_getElem hk];exact List.getElem_mem _
 generalize (slotsOf H p).getD k 0=x at *
 cases e:isClP H L
 ·rfl
 ·unfold isClP at e
  rw[List.all_eq_true]at e
  have:=e p hp
  rw[List.all_eq_true]at this
  have:=this x hx
  rw[h]at this
  cases this
set_option maxHeartbeats 32000000 in
theorem isClosed_any {w:World} {b off c1 c2 c3 c4 c5:Nat} {a2 a3 a4 a5:Option Addr} {H:Hp} {ps L:List Int} {ds:List Pd} {sl:Pd→List Int} (hx:IntsAt w (.slice (some ⟨b,off,none⟩) H.row.length c1) H.row) (hv:RoomsAt w (.slice a5 ds.length c5) ds sl) (hp0:PdsAt w (.slice a5 ds.length c5) ds) (hF:FolP H ps ds sl) (hr:AllI H.row) {pN:Addr} (hG:Glob w pN) (up:Int) {la:Option Addr} {lc:Nat} (hL:IntsAt w (.slice la L.length lc) L) (hM:IsMarks H L) (hll:L.length≤1000) (hq2:H.row.length≤1000) (hdl:ds.length≤1000)
    (hob:∀i,i<ds.length→∃j sn cn:Nat,ds.getD i pdD=⟨(sn:Int),uF (H.row.getD j 0),uC (H.row.getD j 0),uH (H.row.getD j 0),uP (H.row.getD j 0),uM (H.row.getD j 0),.slice (some ⟨b,off+j,none⟩) cn cn,(j:Int)⟩∧((j:Int) ∈ L→(slotsOf H (j:Int)).length=sn∧j+1+sn≤H.row.length∧∀k,k<sn→(slotsOf H (j:Int)).getD k 0=H.row.getD (j+1+k) 0∧wordIn H ps (H.row.getD (j+1+k) 0)=true))
    (hal:∀p ∈ L,∃i,i<ds.length∧(ds.getD i pdD).pl=p) :
    Calls Tryz.prog 34 #[hov H (.slice (some ⟨b,off,none⟩) H.row.length c1) (.slice a2 H.roots.length c2) (.slice a3 H.mourned.length c3) (.slice a4 H.seen.length c4) up (.slice a5 ds.length c5),.agg #[.slice la L.length lc]] w fun e w'=>e = .returned (.bool (isClP H L))∧Below w.heap.size w w':=by
 have B0:Below w.heap.size w (w.alloc (hp.hob H (.slice (some ⟨b,off,none⟩) H.row.length c1) (.slice a2 H.roots.length c2) (.slice a3 H.mourned.length c3) (.slice a4 H.seen.length c4) up (.slice a5 ds.length c5))):=(Below.refl _ _).alloc (Nat.le_refl _) _
 have B1:=B0.alloc B0.size (stb (.slice la L.length lc))
 have HALL:Hid (∃X,X=(w.alloc (hp.hob H (.slice (some ⟨b,off,none⟩) H.row.length c1) (.slice a2 H.roots.length c2) (.slice a3 H.mourned.length c3) (.slice a4 H.seen.length c4) up (.slice a5 ds.length c5))).alloc (stb (.slice la L.length lc))∧X.heap[w.heap.size]? = some (hp.hob H (.slice (some ⟨b,off,none⟩) H.row.length c1) (.slice a2 H.roots.length c2) (.slice a3 H.mourned.length c3) (.slice a4 H.seen.length c4) up (.slice a5 ds.length c5))∧X.heap[w.heap.size+1]? = some (stb (.slice la L.length lc))∧Below w.heap.size w X):=⟨_,rfl,heap_alloc2_old _ _ _,heap_alloc2_new _ _ _,B1⟩
 have HKA:Hid (∀V (q:Nat),Below w.heap.size w V→q<H.row.length→wordIn H ps (H.row.getD q 0)=true→Calls Tryz.prog 75 #[hov H (.slice (some ⟨b,off,none⟩) H.row.length c1) (.slice a2 H.roots.length c2) (.slice a3 H.mourned.length c3) (.slice a4 H.seen.length c4) up (.slice a5 ds.length c5),.int .i64 (q:Int),.agg #[.slice la L.length lc]] V fun e w'=>e = .returned (keptV H L (H.row.getD q 0) (q:Int) pN)∧Below V.heap.size V w'):=fun V q hV hq hw=>keptAt_any (intsAt_below hx hV) (hv.below hV) hF hr (hG.below hV) up (intsAt_below hL hV) hM.1 hll hq hq2 hw
 have HHA:Hid (∀V C,Below w.heap.size w V→V.cell? ⟨C,0,none⟩=some (.slice la L.length lc)→∀x,Calls Tryz.prog 35 #[.pointer (some ⟨C,0,none⟩),.int .i64 x] V fun e w'=>e = .returned (.bool (decide (x ∈ L)))∧w'=V):=fun V C hV hc x=>hasM_any hc (intsAt_below hL hV) hM.1 (by omega) x
 have HPD:Hid _:=hp0
 have HOB:Hid _:=hob
 have HYE:Hid ((∀i,i<ds.length→(ds.getD i pdD).pl ∈ L→∀k,k<(slotsOf H (ds.getD i pdD).pl).length→lostW H L ((slotsOf H (ds.getD i pdD).pl).getD k 0)=false)→isClP H L=true):=fun h=>clP_yes (fun p hp=>by
  obtain⟨i,hi,rfl⟩:=hal p hp
  exact h i hi hp)
 have HNO:Hid (∀p k,p ∈ L→k<(slotsOf H p).length→lostW H L ((slotsOf H p).getD k 0)=true→isClP H L=false):=fun p k a b c=>clP_no a b c
 obtain⟨b0,hb0'⟩:∃b0,isClP H L=b0:=⟨_,rfl⟩
 rw[hb0']
 have HB0:Hid _:=hb0'
 clear B0 B1 hx hv hF hr hG hL hM hob hal hp0 hb0'
 go_enter Tryz.func34,Tryz.ntmps34
 go_upto_region 1 with fail
 obtain⟨X,hX,q0,q1,BX⟩:=HALL.out
 rw[←hX]
 clear hX HALL
 have HQ0:Hid _:=q0
 have HQ1:Hid _:=q1
 have HBX:Hid _:=BX
 have hX1:w.heap.size+1<X.heap.size:=lt_of_block q1
 obtain⟨⟨m0,m1,m2,m3,m4,m5,m6,m7,m8,m9,m10⟩,_⟩:=hob_cells q0
 clear q0 q1 BX
 go_wp2_with fail
 clear m0 m1 m2 m3 m4 m5 m6 m7 m8 m9 m10
 go_loopw [6,7,12] (fun _ _ v wr=>∃y:Nat,y≤ds.length∧v = .int .i64 (y:Int)∧(∀i,i<y→(ds.getD i pdD).pl ∈ L→∀k,k<(slotsOf H (ds.getD i pdD).pl).length→lostW H L ((slotsOf H (ds.getD i pdD).pl).getD k 0)=false)∧Below X.heap.size X wr) (fun _ _ v _=>ds.length-(intOf v).toNat)
 case atStart=>exact⟨0,Nat.zero_le _,rfl,fun i hi=>absurd hi (Nat.not_lt_zero _),Below.refl _ _⟩
 case round=>
  obtain⟨y,hy,rfl,hdn,hB⟩:=hrel
  have HDN:Hid _:=hdn
  have HBR:Hid _:=hB
  have hszr:=hB.size
  by_cases hlt:y<ds.length
  ·have hlt':(y:Int)<(ds.length:Int):=by omega
   obtain⟨j,sn,cn,hd,hmk⟩:=HOB.out y hlt
   have HBW:Hid _:=HBX.out.trans (hB.mono HBX.out.size)
   obtain⟨_,_,ev,_,_,_,hcs⟩:=pdsAt_below HPD.out HBW.out
   injection ev with ev1 _ ev3
   subst ev1 ev3
   obtain⟨mg,mo,ev4,hmg,hcell⟩:=hcs (by omega)
   subst ev4
   have hcd:=hcell y hlt
   rw[hd]at hcd
   obtain⟨p0,p1,p2,p3,p4,p5,p6,p7⟩:=hcd
   simp only at p0 p1 p2 p3 p4 p5 p6 p7
   have HPL:Hid ((ds.getD y pdD).pl=(j:Int)):=by show _=_;rw[hd]
   have HMK:Hid _:=hmk
   clear hdn hB hd hmk hcs hcell
   generalize uF (H.row.getD j 0)=f at *
   generalize uC (H.row.getD j 0)=c at *
   generalize uH (H.row.getD j 0)=g at *
   generalize uP (H.row.getD j 0)=pb at *
   generalize uM (H.row.getD j 0)=mk at *
   go_upto_region 4 with fail
   clear p0 p1 p2 p3 p4 p5 p6 p7
   have BY:Below wr.heap.size wr (wr.alloc (pdb ⟨(sn:Int),f,c,g,pb,mk,.slice (some ⟨b,off+j,none⟩) cn cn,(j:Int)⟩)):=(Below.refl _ _).alloc (Nat.le_refl _) _
   have HQY:Hid _:=heap_alloc_new wr (pdb ⟨(sn:Int),f,c,g,pb,mk,.slice (some ⟨b,off+j,none⟩) cn cn,(j:Int)⟩)
   have HBY:Hid _:=HBR.out.trans (BY.mono hszr)
   obtain⟨⟨p0,p1,p2,p3,p4,p5,p6,p7⟩,_⟩:=pdb_cells HQY.out
   simp only at p0 p1 p2 p3 p4 p5 p6 p7
   clear BY
   generalize wr.alloc (pdb ⟨(sn:Int),f,c,g,pb,mk,.slice (some ⟨b,off+j,none⟩) cn cn,(j:Int)⟩)=Y at *
   have HS1:=HHA.out Y (w.heap.size+1) (HBX.out.trans (HBY.out.mono HBX.out.size)) (stb_cells ((HBY.out.block _ hX1).trans HQ1.out)).1 (j:Int)
   have hYr:wr.heap.size<Y.heap.size:=lt_of_block HQY.out
   by_cases hin:(j:Int) ∈ L
   case neg=>
    have HD2:Hid (∀i,i<y+1→(ds.getD i pdD).pl ∈ L→∀k,k<(slotsOf H (ds.getD i pdD).pl).length→lostW H L ((slotsOf H (ds.getD i pdD).pl).getD k 0)=false):=fun i hi hil=>by
     by_cases ei:i=y
     ·subst ei;rw[HPL.out]at hil;exact absurd hil hin
     ·exact HDN.out i (by omega) hil
    rw[decide_eq_false hin]at HS1
    clear hin HMK
    go_wp2_with (go_at_call 35;refine HS1.mono ?_;clear HS1;rintro e w4 ⟨rfl,hw4⟩;rw[hw4];clear hw4 w4)
    exact⟨⟨y+1,by omega,by go_num,HD2.out,HBY.out⟩,by simp[intOf];omega⟩
   obtain⟨s1,s2,s3⟩:=HMK.out hin
   have HS3:Hid _:=s3
   have HSL:Hid _:=s1
   have HINL:Hid _:=hin
   rw[decide_eq_true hin]at HS1
   clear hin HMK s1 s3
   go_wp2_with (go_at_call 35;refine HS1.mono ?_;clear HS1;rintro e w4 ⟨rfl,hw4⟩;rw[hw4];clear hw4 w4)
   clear p0 p1 p2 p3 p4 p5 p6 p7
   go_loopw [7,24] (fun _ v wz=>∃q:Nat,q≤sn∧v = .int .i64 (q:Int)∧(∀k,k<q→lostW H L (H.row.getD (j+1+k) 0)=false)∧Below Y.heap.size Y wz) (fun _ v _=>sn-(intOf v).toNat)
   case atStart=>exact⟨0,Nat.zero_le _,rfl,fun k hk=>absurd hk (Nat.not_lt_zero _),Below.refl _ _⟩
   case round=>
    obtain⟨q,hq,rfl,hqd,hBz⟩:=hrel
    have HQD:Hid _:=hqd
    have HBZ:Hid _:=HBY.out.trans (hBz.mono HBY.out.size)
    have HBZ2:Hid _:=hBz
    by_cases hql:q<sn
    ·have hql':(q:Int)<(sn:Int):=by omega
     obtain⟨⟨p0,p1,p2,p3,p4,p5,p6,p7⟩,_⟩:=pdb_cells ((hBz.block _ hYr).trans HQY.out)
     simp only at p0 p1 p2 p3 p4 p5 p6 p7
     obtain⟨⟨m0,m1,m2,m3,m4,m5,m6,m7,m8,m9,m10⟩,_⟩:=hob_cells ((HBZ.out.block _ (by omega)).trans HQ0.out)
     obtain⟨t0,_⟩:=stb_cells ((HBZ.out.block _ hX1).trans HQ1.out)
     obtain⟨hsg,hwi⟩:=HS3.out q hql
     have KA:=HKA.out wr (j+1+q) (HBX.out.trans (HBZ.out.mono HBX.out.size)) (by omega) hwi
     have i4:IntKind.i64.wrap ((j:Int)+1)=(j:Int)+1:=by rw[IntKind.wrap_i64];omega
     have i5:IntKind.i64.wrap ((j:Int)+1+(q:Int))=(j:Int)+1+(q:Int):=by rw[IntKind.wrap_i64];omega
     have e5:((j+1+q:Nat):Int)=(j:Int)+1+(q:Int):=by omega
     rw[e5]at KA
     clear hqd hBz hwi e5
     cases hlw:lostW H L (H.row.getD (j+1+q) 0)
     ·have HD3:Hid (∀k,k<q+1→lostW H L (H.row.getD (j+1+k) 0)=false):=fun k hk=>by
        by_cases ek:k=q
        ·subst ek;exact hlw
        ·exact HQD.out k (by omega)
      rw[show keptV H L (H.row.getD (j+1+q) 0) ((j:Int)+1+(q:Int)) pN = .nilIface by unfold keptV;rw[if_neg (by rw[hlw];decide)]]at KA
      clear hlw hsg
      go_wp2_with (go_at_call 75;refine KA.mono ?_;clear KA;rintro e w6 ⟨rfl,b6⟩;have HB6:Hid _:=HBZ2.out.trans (b6.mono HBZ2.out.size);clear b6)
      exact⟨⟨q+1,by omega,by go_num,HD3.out,HB6.out⟩,by simp[intOf];omega⟩
     ·have e0:b0=false:=HB0.out.symm.trans (HNO.out (j:Int) q HINL.out (by rw[HSL.out];exact hql) (by rw[hsg];exact hlw))
      subst e0
      rw[show keptV H L (H.row.getD (j+1+q) 0) ((j:Int)+1+(q:Int)) pN=refV ((j:Int)+1+(q:Int)) pN by unfold keptV;rw[if_pos hlw]]at KA
      clear hlw hsg
      go_wp2_with (go_at_call 75;refine KA.mono ?_;clear KA;rintro e w6 ⟨rfl,b6⟩;have HB6:Hid _:=HBZ.out.trans (b6.mono HBZ.out.size);clear b6)
      exact bodyPost_ret (v:=.bool false) (by simp[results,go_sem]) rfl ⟨rfl,HBX.out.trans (HB6.out.mono HBX.out.size)⟩
    ·have hql':¬(q:Int)<(sn:Int):=by omega
     have e:q=sn:=by omega
     subst e
     have HD2:Hid (∀i,i<y+1→(ds.getD i pdD).pl ∈ L→∀k,k<(slotsOf H (ds.getD i pdD).pl).length→lostW H L ((slotsOf H (ds.getD i pdD).pl).getD k 0)=false):=fun i hi hil=>by
      by_cases ei:i=y
      ·subst ei
       intro k hk
       rw[HPL.out]at hk ⊢
       rw[HSL.out]at hk
       rw[(HS3.out k hk).1]
       exact HQD.out k hk
      ·exact HDN.out i (by omega) hil
     clear hqd hBz
     go_wp2
     exact⟨⟨y+1,by omega,by go_num,HD2.out,HBZ.out⟩,by simp[intOf];omega⟩
  ·have hlt':¬(y:Int)<(ds.length:Int):=by omega
   have e:y=ds.length:=by omega
   subst e
   have e0:b0=true:=HB0.out.symm.trans (HYE.out HDN.out)
   subst e0
   clear hdn hB
   go_wp2
   exact bodyPost_ret (v:=.bool true) (by simp[results,go_sem]) rfl ⟨rfl,HBX.out.trans (HBR.out.mono HBX.out.size)⟩
theorem roomB_of {a:Option Addr} {H:Hp} {ps:List Int} (hn:numB H=true) (h:placesR H=some ps):roomB a H=true:=by
 obtain⟨_,hz,r,u,hr,hu,hok,_⟩:=places_facts h
 have hb:=placesB_yes hz hr hu hok
 cases e:roomB a H
 ·rw[room_none hn e]at hb;cases hb
 ·rfl
theorem obj_step {a:Option Addr} {H:Hp} {ps:List Int} (h:heapOk H=true) (R:Rt H ps) (hr:roomB a H=true) {i:Nat} (hi:i<(objsP a H).length) :
    ∃j:Nat,((objsP a H).getD i pdD).pl=(j:Int)∧j+2≤H.row.length∧j+1+(slotsOf H (j:Int)).length≤H.row.length∧(objL H ps).getD i 0=(j:Int)∧(((objsP a H).getD i pdD).f==7)=ntH H (j:Int)∧slP H.row ((objsP a H).getD i pdD)=slotsOf H (j:Int)∧∀x ∈ slotsOf H (j:Int),wordIn H ps x=true:=by
 have hpl:=objs_places (a:=a) h
 rw[R.some',Option.getD_some]at hpl
 obtain⟨j,ed,hc,h6⟩:=objs_in hr _ (mem_getDP hi)
 obtain⟨_,_,c2,c3⟩:=chunk_fits hc h6
 have se:=slots_end hc h6
 have hg:(objL H ps).getD i 0=(j:Int):=by
  rw[←hpl]
  unfold plL
  rw[List.getD_eq_getElem?_getD,List.getElem?_map,List.getElem?_eq_getElem hi]
  have e2:(objsP a H)[i]=pdOf a H.row j:=by
   rw[←ed,List.getD_eq_getElem?_getD,List.getElem?_eq_getElem hi];rfl
  rw[e2];rfl
 have hm:(j:Int) ∈ objL H ps:=by
  rw[←hg]
  have hl:i<(objL H ps).length:=by rw[←hpl];unfold plL;rw[List.length_map];exact hi
  rw[List.getD_eq_getElem?_getD,List.getElem?_eq_getElem hl];exact List.getElem_mem hl
 refine⟨j,by rw[ed];rfl,by omega,by omega,hg,?_,?_,?_⟩
 ·rw[ed];unfold ntH;rw[Int.toNat_natCast];rfl
 ·rw[ed];exact slP_of a H j h6
 ·have hs:=R.slots
  unfold slotsOk at hs
  rw[List.all_eq_true]at hs
  have h1:=hs _ (objL_mem hm).1
  rw[List.all_eq_true]at h1
  exact h1
structure StM (w1 W:World) (H:Hp) (vr vo vm vs v5:Value) (P:Nat) (c2 c5 c6:Value):Prop where
 b:Below w1.heap.size w1 W
 ho:W.heap[w1.heap.size]? = some (hob H vr vo vm vs (2*H.half) v5)
 np:Nine W P 26 (.int .i64 H.half) (.int .i64 H.old) c2 (.int .i64 H.side) (.int .i64 H.top) c5 c6 vs (.int .i64 H.seed)
 lt:w1.heap.size<P∧P<W.heap.size
theorem StM.grow {w1 W W':World} {H:Hp} {vr vo vm vs v5:Value} {P:Nat} {c2 c5 c6:Value} (h:StM w1 W H vr vo vm vs v5 P c2 c5 c6) (hb:Below W.heap.size W W'):StM w1 W' H vr vo vm vs v5 P c2 c5 c6:=
 ⟨h.b.trans (hb.mono h.b.size),(hb.block _ (lt_of_block h.ho)).trans h.ho,nine_below h.np hb,h.lt.1,Nat.lt_of_lt_of_le h.lt.2 hb.size⟩
theorem StM.put {w1 W W':World} {H:Hp} {vr vo vm vs v5:Value} {P:Nat} {c2 c5 c6 d2 d5 d6:Value} (h:StM w1 W H vr vo vm vs v5 P c2 c5 c6) (hc:Ch [P] W W') (hn:Nine W' P 26 (.int .i64 H.half) (.int .i64 H.old) d2 (.int .i64 H.side) (.int .i64 H.top) d5 d6 vs (.int .i64 H.seed)):StM w1 W' H vr vo vm vs v5 P d2 d5 d6:=
 ⟨h.b.trans (below_ch hc h.b.size (fun k hk=>by have:=h.lt.1;simp at hk;omega)),(hc.block _ (lt_of_block h.ho) (by have:=h.lt.1;simp;omega)).trans h.ho,hn,h.lt.1,Nat.lt_of_lt_of_le h.lt.2 hc.size⟩
structure StL (w1 W:World) (H:Hp) (vr vo vm vs v5:Value) (P go gm gr:Nat) (xs:List Int):Prop where
 m:StM w1 W H vr vo vm vs v5 P (.slice (some ⟨gr,0,none⟩) H.row.length H.row.length) (.slice (some ⟨go,0,none⟩) H.roots.length H.roots.length) (.slice (some ⟨gm,0,none⟩) H.mourned.length H.mourned.length)
 fo:Full W go (H.roots.map (fol H))
 fm:Full W gm (H.mourned.map (fol H))
 fr:Full W gr xs
 ord:P<go∧go<gm∧gm<gr∧gr<W.heap.size
 len:xs.length=H.row.length
theorem StL.grow {w1 W W':World} {H:Hp} {vr vo vm vs v5:Value} {P go gm gr:Nat} {xs:List Int} (h:StL w1 W H vr vo vm vs v5 P go gm gr xs) (hb:Below W.heap.size W W'):StL w1 W' H vr vo vm vs v5 P go gm gr xs:=
 ⟨h.m.grow hb,full_belo h.fo hb,full_belo h.fm hb,full_belo h.fr hb,⟨h.ord.1,h.ord.2.1,h.ord.2.2.1,Nat.lt_of_lt_of_le h.ord.2.2.2 hb.size⟩,h.len⟩
theorem StL.copy {w1 W W':World} {H:Hp} {vr vo vm vs v5:Value} {P go gm gr:Nat} {xs ys:List Int} (h:StL w1 W H vr vo vm vs v5 P go gm gr xs) (hb:Below gr W W') (hf:Full W' gr ys) (hl:ys.length=H.row.length):StL w1 W' H vr vo vm vs v5 P go gm gr ys:=by
 obtain⟨o1,o2,o3,o4⟩:=h.ord
 obtain⟨p1,p2⟩:=h.m.lt
 exact⟨⟨h.m.b.trans (hb.mono (by omega)),(hb.block _ (by omega)).trans h.m.ho,(hb.block P (by omega)).trans h.m.np,p1,Nat.lt_of_lt_of_le p2 hb.size⟩,(hb.block go (by omega)).trans h.fo,(hb.block gm (by omega)).trans h.fm,hf,⟨o1,o2,o3,Nat.lt_of_lt_of_le o4 hb.size⟩,hl⟩
end Go.Proofs.YtocidankimefpaaGreatDoor.hp
