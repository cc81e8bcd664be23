/-
  Chapter 15 as the program has it: Swept.
  Made from the template SwpI8 (mkswpi8.py).
-/
import Derived.Test.YtocidankimefpaaGreatDoorM32
import Derived.Test.YtocidankimefpaaGreatDoorM28
import Derived.Test.YtocidankimefpaaGreatDoorM29
import Derived.Test.YtocidankimefpaaGreatDoorM26
import Derived.Test.YtocidankimefpaaGreatDoorM31
namespace Go.Proofs.YtocidankimefpaaGreatDoor.hp
open Go.RowKit rows heads words walks
set_option maxRecDepth 100000
set_option linter.unusedVariables false
set_option linter.unusedSimpArgs false
theorem own_out {w w5 W:World} {U:Nat} {vr vo vm vs:Value} {H:Hp} (h:OwnH w5 U vr vo vm vs H) (hU:w.heap.size+2≤U) (hc:Ch [w.heap.size+1] w5 W):OwnH W w.heap.size vr vo vm vs H:=
 ownH_base (ownH_ch h hc (fun k hk=>by have:=(ownH_lt h k hk).1;simp;omega)) (by omega)
theorem swp_round {b off:Nat} {H:Hp} {ps L:List Int} (dr:heapOk H=true) (hro:roomB (some ⟨b,off,none⟩) H=true) (R:Rt H ps) (hl:(objsP (some ⟨b,off,none⟩) H).length=(objL H ps).length):∀i,i<(objsP (some ⟨b,off,none⟩) H).length→∃j s n:Nat,(objsP (some ⟨b,off,none⟩) H).getD i pdD=⟨(s:Int),uF (H.row.getD j 0),uC (H.row.getD j 0),uH (H.row.getD j 0),uP (H.row.getD j 0),uM (H.row.getD j 0),.slice (some ⟨b,off+j,none⟩) n n,(j:Int)⟩∧s≤20∧sz (s:Int)=(n:Int)∧j+n≤H.row.length∧(swpRow H L ((objL H ps).take i)).length=H.row.length∧(swpRow H L ((objL H ps).take (i+1))).length=H.row.length∧((j:Int) ∈ L→swpRow H L ((objL H ps).take (i+1))=swpRow H L ((objL H ps).take i))∧((j:Int) ∉ L→swpRow H L ((objL H ps).take (i+1))=if (j:Int)<2*H.half then put (swpRow H L ((objL H ps).take i)) j (pk (s:Int) 0 0 0 false false) (List.replicate s 2) s n else freeR (swpRow H L ((objL H ps).take i)) j n):=fun i hi=>by
 obtain⟨j,s,n,e1,e2,e3,e4,e5,e6,e7,e8,e9,e10,e11,e12⟩:=swp_step (L:=L) R i (by rw[←hl];exact hi)
 obtain⟨j1,q1,_,_,q4,_⟩:=obj_step dr R hro hi
 obtain⟨j',ed,hc,h6⟩:=objs_in hro _ (mem_getDP hi)
 have ej:j'=j:=by
  have:((objsP (some ⟨b,off,none⟩) H).getD i pdD).pl=(j':Int):=by rw[ed];rfl
  rw[e1]at q4
  omega
 subst ej
 refine⟨j',s,n,?_,e3,e4,e8,e9,e10,e11,e12⟩
 rw[ed]
 unfold pdOf
 rw[e5,Int.toNat_natCast,piece_at b off j' _ (by omega),e2]
set_option maxHeartbeats 64000000 in
theorem implSwept {H:Hp} {L:List Int} (hI:HpI H) (hM:IsMarksOk H L) (w:World) (vr vo vm vs:Value) {pN:Addr} (hG:Glob w pN) (h:HpAt w vr vo vm vs H) (hs:hpSize H≤1048576) :
    Calls Tryz.prog 13 #[hpv H vr vo vm vs] w fun e w'=>∃(o' r' m' s':Value),e = .returned (hpv (swpOk H L) o' r' m' s')∧OwnH w' w.heap.size o' r' m' s' (swpOk H L)∧Below w.heap.size w w':=by
 obtain⟨a1,c1,a2,c2,a3,c3,a4,c4,e1,e2,e3,e4⟩:=hpAt_slices h
 subst e1 e2 e3 e4
 have B0:Below w.heap.size w (w.alloc (hpb H (.slice a1 H.row.length c1) (.slice a2 H.roots.length c2) (.slice a3 H.mourned.length c3) (.slice a4 H.seen.length c4))):=(Below.refl _ _).alloc (Nat.le_refl _) _
 have B1:=B0.alloc B0.size (hpb ⟨0,0,[],0,0,[],[],[],0⟩ (.slice none 0 0) (.slice none 0 0) (.slice none 0 0) (.slice none 0 0))
 have HALL:Hid (∃X,X=(w.alloc (hpb H (.slice a1 H.row.length c1) (.slice a2 H.roots.length c2) (.slice a3 H.mourned.length c3) (.slice a4 H.seen.length c4))).alloc (hpb ⟨0,0,[],0,0,[],[],[],0⟩ (.slice none 0 0) (.slice none 0 0) (.slice none 0 0) (.slice none 0 0))∧Nine X w.heap.size 26 (.int .i64 H.half) (.int .i64 H.old) (.slice a1 H.row.length c1) (.int .i64 H.side) (.int .i64 H.top) (.slice a2 H.roots.length c2) (.slice a3 H.mourned.length c3) (.slice a4 H.seen.length c4) (.int .i64 H.seed)∧Nine X (w.heap.size+1) 26 (.int .i64 0) (.int .i64 0) (.slice none 0 0) (.int .i64 0) (.int .i64 0) (.slice none 0 0) (.slice none 0 0) (.slice none 0 0) (.int .i64 0)∧Below w.heap.size w X∧HpAt X (.slice a1 H.row.length c1) (.slice a2 H.roots.length c2) (.slice a3 H.mourned.length c3) (.slice a4 H.seen.length c4) H):=
  ⟨_,rfl,heap_alloc2_old _ _ _,heap_alloc2_new _ _ _,B1,hpAt_below h B1⟩
 have HG:Hid _:=hG
 have HS:Hid _:=hs
 have HII:Hid _:=hI
 clear B0 B1 hs hI hG
 cases dr:heapOk H
 ·have e:swpOk H L=hp0:=by unfold swpOk;rw[if_neg (by rw[dr];decide)]
  rw[e]
  have HDR:Hid _:=dr
  clear h hM dr e
  go_enter Tryz.func13,Tryz.ntmps13
  go_upto_region 1 with fail
  obtain⟨X,hX,T0,T1,BX,AX⟩:=HALL.out
  rw[←hX]
  clear hX HALL
  obtain⟨⟨z0,z1,z2,z3,z4⟩,⟨z5,z6,z7,z8⟩,_⟩:=nine_cells T0
  have OX:=opened_any AX HS.out HII.out
  unfold OpenR at OX
  have R0:=OX.mono (fun e w' (g:_∧_∧_)=>(⟨g.1 HDR.out,g.2.2⟩:e = .returned (.tuple #[hov0,.bool false])∧Below _ _ w'))
  have HT1:Hid _:=T1
  have HBX:Hid _:=BX
  clear OX T0 T1 BX AX
  go_upto_region 2 with (go_at_call 31;refine R0.mono ?_;clear R0 z0 z1 z2 z3 z4 z5 z6 z7 z8;rintro e w1 ⟨rfl,b1⟩;have HB1:Hid _:=b1;clear b1)
  have HB2:Hid _:=HB1.out.alloc HB1.out.size (hob hz s0 s0 s0 s0 0 s0)
  generalize w1.alloc (hob hz s0 s0 s0 s0 0 s0)=Y at *
  have HBY:Hid _:=HBX.out.trans (HB2.out.mono HBX.out.size)
  have HN1:Hid _:=nine_below HT1.out HB2.out
  obtain⟨⟨y0,y1,y2,y3,y4⟩,⟨y5,y6,y7,y8⟩,yf⟩:=nine_cells HN1.out
  have f0:=yf 0
  have f1:=yf 1
  have f2:=yf 2
  have f3:=yf 3
  have f4:=yf 4
  have f5:=yf 5
  have f6:=yf 6
  have f7:=yf 7
  have f8:=yf 8
  clear yf HB2 HT1 HB1
  go_wp2_with fail
  exact bodyPost_ret (res_heap rfl rfl (nine_sets HN1.out _ _ _ _ _ _ _ _ _)) rfl ⟨_,_,_,_,rfl,own0 _ _,nine_belows HBY.out (Nat.le_succ _) _ _ _ _ _ _ _ _ _⟩
 ·have hL:IsMarks H L:=by
    rcases hM with ⟨e,_⟩|⟨_,e⟩
    ·rw[dr]at e;cases e
    ·exact e
  obtain⟨ps,FP⟩:=folP_of (a:=a1) dr
  rw[swpOk_is dr FP.rt]
  obtain⟨SA,hSA⟩:∃SA,swpA H ps L=SA:=⟨_,rfl⟩
  rw[hSA]
  have HSA:Hid _:=hSA
  clear hSA
  have hrt:=(ok_right dr).1
  rw[←openB_is a1 H]at hrt
  obtain⟨hn,hro,_⟩:=openB_parts hrt
  have N:=(places_facts FP.rt.some').1
  have hrl:=FP.rt.len
  have hpos:0<H.row.length:=by have:=N.len;have:=N.half1;omega
  obtain⟨b,off,ea,_,_⟩:=ints_cell h.1 hpos
  subst ea
  have hln:(objsP (some ⟨b,off,none⟩) H).length=(objL H ps).length:=by
   have hpl:=objs_places (a:=some ⟨b,off,none⟩) dr
   rw[FP.rt.some',Option.getD_some]at hpl
   rw[←hpl]
   unfold plL
   rw[List.length_map]
  have HLN:Hid _:=hln
  have hris:Rising (objL H ps):=(places_rising FP.rt.some').filter _
  have HRO:Hid (∀V a5 c5,HpAt V (.slice (some ⟨b,off,none⟩) H.row.length c1) (.slice a2 H.roots.length c2) (.slice a3 H.mourned.length c3) (.slice a4 H.seen.length c4) H→PdsAt V (.slice a5 (objsP (some ⟨b,off,none⟩) H).length c5) (objsP (some ⟨b,off,none⟩) H)→RoomsAt V (.slice a5 (objsP (some ⟨b,off,none⟩) H).length c5) (objsP (some ⟨b,off,none⟩) H) (slP H.row)):=fun V a5 c5 hV hp=>roomsAt_of hV.1 hn hro HII.out.2.1 hp
  have HMA:Hid (∀V a5 c5,HpAt V (.slice (some ⟨b,off,none⟩) H.row.length c1) (.slice a2 H.roots.length c2) (.slice a3 H.mourned.length c3) (.slice a4 H.seen.length c4) H→RoomsAt V (.slice a5 (objsP (some ⟨b,off,none⟩) H).length c5) (objsP (some ⟨b,off,none⟩) H) (slP H.row)→Calls Tryz.prog 32 #[hov H (.slice (some ⟨b,off,none⟩) H.row.length c1) (.slice a2 H.roots.length c2) (.slice a3 H.mourned.length c3) (.slice a4 H.seen.length c4) (2*H.half) (.slice a5 (objsP (some ⟨b,off,none⟩) H).length c5)] V fun e w'=>∃u,e = .returned (.agg #[u])∧rows.Own w' V.heap.size u L∧Below V.heap.size V w'):=fun V a5 c5 hV hr=>marks_any hV hr FP HII.out hrl (by have:=N.roots;omega) (by have:=N.mourned;omega) (fun i hi=>by
   obtain⟨j,e1,e2,_⟩:=objs_in hro _ (mem_getDP hi)
   exact⟨j,e1,e2⟩) hL _
  have HST:Hid (∀V a5 c5,HpAt V (.slice (some ⟨b,off,none⟩) H.row.length c1) (.slice a2 H.roots.length c2) (.slice a3 H.mourned.length c3) (.slice a4 H.seen.length c4) H→RoomsAt V (.slice a5 (objsP (some ⟨b,off,none⟩) H).length c5) (objsP (some ⟨b,off,none⟩) H) (slP H.row)→Calls Tryz.prog 33 #[hov H (.slice (some ⟨b,off,none⟩) H.row.length c1) (.slice a2 H.roots.length c2) (.slice a3 H.mourned.length c3) (.slice a4 H.seen.length c4) (2*H.half) (.slice a5 (objsP (some ⟨b,off,none⟩) H).length c5)] V fun e w'=>e = .returned (.bool (isStr H ps))∧Below V.heap.size V w'):=fun V a5 c5 hV hr=>straight_of dr hro FP hV hr HII.out _ hln
  have HCL:Hid (∀V a5 c5 la lc,HpAt V (.slice (some ⟨b,off,none⟩) H.row.length c1) (.slice a2 H.roots.length c2) (.slice a3 H.mourned.length c3) (.slice a4 H.seen.length c4) H→RoomsAt V (.slice a5 (objsP (some ⟨b,off,none⟩) H).length c5) (objsP (some ⟨b,off,none⟩) H) (slP H.row)→Glob V pN→IntsAt V (.slice la L.length lc) L→Calls Tryz.prog 34 #[hov H (.slice (some ⟨b,off,none⟩) H.row.length c1) (.slice a2 H.roots.length c2) (.slice a3 H.mourned.length c3) (.slice a4 H.seen.length c4) (2*H.half) (.slice a5 (objsP (some ⟨b,off,none⟩) H).length c5),.agg #[.slice la L.length lc]] V fun e w'=>e = .returned (.bool (isClP H L))∧Below V.heap.size V w'):=fun V a5 c5 la lc hV hr hg hl=>closed_of dr hro FP hV hr HII.out _ hg hl hL
  have HOS:Hid _:=swp_round (L:=L) dr hro FP.rt hln
  have HCI:Hid (isStr H ps=true→isClP H L=isCl H L):=fun e=>isCl_is FP.rt hris hL e
  have hll:L.length≤500:=FP.rt.marks_len hL.1 (fun a ha=>(hL.2 a).1 ha)
  have HRT:Hid _:=FP.rt
  have HLM:Hid _:=hL
  have HRI:Hid _:=hris
  have HNB:Hid (0≤H.half∧H.half≤200∧0≤H.old∧H.old≤400):=by have h1:=N.half1;have h2:=N.half;have h3:=N.old1;have h4:=N.old;exact⟨by omega,by omega,by omega,by omega⟩
  have HDR:Hid _:=dr
  have h1000:(objsP (some ⟨b,off,none⟩) H).length≤1000:=by
   rw[hln]
   exact Nat.le_trans (objL_len _ _) (by have:=(places_plc FP.rt.some').2;omega)
  have hrows:=hrl
  clear h hM dr hrt hn hro N hpos hln hL FP hris
  go_enter Tryz.func13,Tryz.ntmps13
  go_upto_region 1 with fail
  obtain⟨X,hX,T0,T1,BX,AX⟩:=HALL.out
  rw[←hX]
  clear hX HALL
  obtain⟨⟨z0,z1,z2,z3,z4⟩,⟨z5,z6,z7,z8⟩,_⟩:=nine_cells T0
  have OX:=opened_any AX HS.out HII.out
  unfold OpenR at OX
  have R0:=OX.mono (fun e w' (g:_∧_∧_)=>(⟨g.2.1 HDR.out,g.2.2⟩:(∃a5 c5,e = .returned (.tuple #[hov H (.slice (some ⟨b,off,none⟩) H.row.length c1) (.slice a2 H.roots.length c2) (.slice a3 H.mourned.length c3) (.slice a4 H.seen.length c4) (2*H.half) (.slice a5 (objsP (some ⟨b,off,none⟩) H).length c5),.bool true])∧OwnP w' _ (.slice a5 (objsP (some ⟨b,off,none⟩) H).length c5) (objsP (some ⟨b,off,none⟩) H))∧Below _ _ w'))
  have HT0:Hid _:=T0
  have HT1:Hid _:=T1
  have HBX:Hid _:=BX
  have HAX:Hid _:=AX
  clear OX T0 T1 BX AX
  go_upto_region 2 with (go_at_call 31;refine R0.mono ?_;clear R0 z0 z1 z2 z3 z4 z5 z6 z7 z8;rintro e w1 ⟨⟨a5,c5,rfl,O1⟩,b1⟩;have HB1:Hid _:=b1;have HO1:Hid _:=ownP_at O1;clear b1 O1)
  have B2:Below w1.heap.size w1 (w1.alloc (hob H (.slice (some ⟨b,off,none⟩) H.row.length c1) (.slice a2 H.roots.length c2) (.slice a3 H.mourned.length c3) (.slice a4 H.seen.length c4) (2*H.half) (.slice a5 (objsP (some ⟨b,off,none⟩) H).length c5))):=(Below.refl _ _).alloc (Nat.le_refl _) _
  have HQU:Hid _:=heap_alloc_new w1 (hob H (.slice (some ⟨b,off,none⟩) H.row.length c1) (.slice a2 H.roots.length c2) (.slice a3 H.mourned.length c3) (.slice a4 H.seen.length c4) (2*H.half) (.slice a5 (objsP (some ⟨b,off,none⟩) H).length c5))
  have HXU:Hid _:=HB1.out.trans (B2.mono HB1.out.size)
  have HPU:Hid _:=pdsAt_below HO1.out B2
  have hw1:=HB1.out.size
  clear B2 HO1 HB1
  generalize w1.alloc (hob H (.slice (some ⟨b,off,none⟩) H.row.length c1) (.slice a2 H.roots.length c2) (.slice a3 H.mourned.length c3) (.slice a4 H.seen.length c4) (2*H.half) (.slice a5 (objsP (some ⟨b,off,none⟩) H).length c5))=U at *
  have HHU:Hid _:=hpAt_below HAX.out HXU.out
  have HRU:Hid _:=HRO.out U a5 c5 HHU.out HPU.out
  have HBU:Hid _:=HBX.out.trans (HXU.out.mono HBX.out.size)
  have HGU:Hid _:=HG.out.below HBU.out
  have CP:=copiedHeap_any HHU.out HS.out
  obtain⟨⟨z0,z1,z2,z3,z4⟩,⟨z5,z6,z7,z8⟩,_⟩:=nine_cells (nine_below HT0.out HXU.out)
  have hXs:=lt_of_block HT1.out
  have hU1:=lt_of_block HQU.out
  clear HRO HAX
  generalize hDS:(objsP (some ⟨b,off,none⟩) H)=ds at *
  clear hDS
  go_upto_region 5 with (go_at_call 21;refine CP.mono ?_;clear CP z0 z1 z2 z3 z4 z5 z6 z7 z8;rintro e w2 ⟨g1,g2,g3,g4,rfl,O2,b2⟩;have HO2:Hid _:=O2;have HB2:Hid _:=b2;clear O2 b2)
  have SN:=ss_new HO2.out
  have BV:Below w2.heap.size w2 (w2.alloc (hpb H (.slice (some ⟨g1,0,none⟩) H.row.length H.row.length) (.slice (some ⟨g2,0,none⟩) H.roots.length H.roots.length) (.slice (some ⟨g3,0,none⟩) H.mourned.length H.mourned.length) (.slice (some ⟨g4,0,none⟩) H.seen.length H.seen.length))):=(Below.refl _ _).alloc (Nat.le_refl _) _
  have HUV:Hid _:=HB2.out.trans (BV.mono HB2.out.size)
  have HGL:Hid _:=ownH_lt HO2.out
  have q1:=(HGL.out g1 (in_hblk.1 _ (by rw[blk_of];simp))).1
  have q2:=(HGL.out g2 (in_hblk.2.1 _ (by rw[blk_of];simp))).1
  have q3:=(HGL.out g3 (in_hblk.2.2.1 _ (by rw[blk_of];simp))).1
  have hU2:=HB2.out.size
  have HDS:Hid _:=SN.1
  have HSN:Hid _:=SN.2
  clear SN BV HO2 HGL HB2
  generalize w2.alloc (hpb H (.slice (some ⟨g1,0,none⟩) H.row.length H.row.length) (.slice (some ⟨g2,0,none⟩) H.roots.length H.roots.length) (.slice (some ⟨g3,0,none⟩) H.mourned.length H.mourned.length) (.slice (some ⟨g4,0,none⟩) H.seen.length H.seen.length))=V at *
  have MA:=HMA.out V a5 c5 (hpAt_below HHU.out HUV.out) (HRU.out.below HUV.out)
  obtain⟨⟨m0,m1,m2,m3,m4,m5,m6,m7,m8,m9,m10⟩,_⟩:=hob_cells ((HUV.out.block _ hU1).trans HQU.out)
  clear HMA
  go_upto_region 6 with (go_at_call 32;refine MA.mono ?_;clear MA m0 m1 m2 m3 m4 m5 m6 m7 m8 m9 m10;rintro e w3 ⟨u,rfl,O3,b3⟩;have HO3:Hid _:=O3;have HB3:Hid _:=b3;obtain⟨la,lc,hu,_⟩:=own_ints O3;subst hu;clear O3 b3)
  have BZ:Below w3.heap.size w3 (w3.alloc (stb (.slice la L.length lc))):=(Below.refl _ _).alloc (Nat.le_refl _) _
  have HQZ:Hid ((w3.alloc (stb (.slice la L.length lc))).heap[w3.heap.size]? = some (stb (.slice la L.length lc))):=heap_alloc_new _ _
  have HSZ:Hid _:=((HSN.out.below HB3.out).newList HO3.out).below BZ
  have HVZ:Hid _:=HB3.out.trans (BZ.mono HB3.out.size)
  have hV3:=HB3.out.size
  clear BZ HB3 HO3 HSN
  generalize w3.alloc (stb (.slice la L.length lc))=Z at *
  have hZ3:=lt_of_block HQZ.out
  have hPd:=HDS.out.lt
  have hUV:=HUV.out.size
  have hVZ:=HVZ.out.size
  have hXU:=HXU.out.size
  have hwX:=HBX.out.size
  have HUZ:Hid (Below U.heap.size U Z):=HUV.out.trans (HVZ.out.mono HUV.out.size)
  have HZO:Hid _:=ss_own HSZ.out HDS.out
  have SI:=HST.out Z a5 c5 (hpAt_below HHU.out HUZ.out) (HRU.out.below HUZ.out)
  obtain⟨⟨m0,m1,m2,m3,m4,m5,m6,m7,m8,m9,m10⟩,_⟩:=hob_cells ((HUZ.out.block _ hU1).trans HQU.out)
  cases hst:isStr H ps
  case false=>
   have eA:H=SA:=(HSA.out.symm.trans (by unfold swpA;rw[hst];rfl)).symm
   subst eA
   rw[hst]at SI
   clear hst
   go_upto_region 7 with (go_at_call 33;refine SI.mono ?_;clear SI m0 m1 m2 m3 m4 m5 m6 m7 m8 m9 m10;rintro e w4 ⟨rfl,b4⟩;have HB4:Hid _:=b4;clear b4)
   have HN4:Hid _:=nine_below HSZ.out.nine HB4.out
   have HO4:Hid _:=ownH_below HZO.out HB4.out
   have HN1:Hid _:=nine_below HT1.out (HXU.out.trans ((HUZ.out.trans (HB4.out.mono HUZ.out.size)).mono HXU.out.size))
   have HB5:Hid _:=HBU.out.trans ((HUZ.out.trans (HB4.out.mono HUZ.out.size)).mono HBU.out.size)
   obtain⟨⟨z0,z1,z2,z3,z4⟩,⟨z5,z6,z7,z8⟩,_⟩:=nine_cells HN4.out
   obtain⟨⟨y0,y1,y2,y3,y4⟩,⟨y5,y6,y7,y8⟩,yf⟩:=nine_cells HN1.out
   have f0:=yf 0
   have f1:=yf 1
   have f2:=yf 2
   have f3:=yf 3
   have f4:=yf 4
   have f5:=yf 5
   have f6:=yf 6
   have f7:=yf 7
   have f8:=yf 8
   clear yf
   go_wp2_with fail
   exact bodyPost_ret (res_heap rfl rfl (nine_sets HN1.out _ _ _ _ _ _ _ _ _)) rfl ⟨_,_,_,_,rfl,own_out HO4.out (by omega) (nine_other _ _ _ _ _ _ _ _ _),nine_belows HB5.out (Nat.le_succ _) _ _ _ _ _ _ _ _ _⟩
  case true=>
   have HCC:Hid _:=HCI.out hst
   rw[hst]at SI
   have HSTT:Hid _:=hst
   clear hst
   have HCLC:Hid (∀w4,Below Z.heap.size Z w4→Calls Tryz.prog 34 #[hov H (.slice (some ⟨b,off,none⟩) H.row.length c1) (.slice a2 H.roots.length c2) (.slice a3 H.mourned.length c3) (.slice a4 H.seen.length c4) (2*H.half) (.slice a5 ds.length c5),.agg #[.slice la L.length lc]] w4 fun e w'=>e = .returned (.bool (isClP H L))∧Below w4.heap.size w4 w'):=fun w4 b4=>HCL.out w4 a5 c5 la lc (hpAt_below (hpAt_below HHU.out HUZ.out) b4) ((HRU.out.below HUZ.out).below b4) ((HGU.out.below HUZ.out).below b4) (own_ints (own_below HSZ.out.list b4))
   cases hcl:isClP H L
   case false=>
    have eA:H=SA:=(HSA.out.symm.trans (by unfold swpA;rw[HSTT.out,←HCC.out,hcl];rfl)).symm
    subst eA
    rw[hcl]at HCLC
    clear hcl
    go_upto_region 7 with (first
     |(go_at_call 33;refine SI.mono ?_;clear SI m0 m1 m2 m3 m4 m5 m6 m7 m8 m9 m10;rintro e w4 ⟨rfl,b4⟩;have HB4:Hid _:=b4;have CI:=HCLC.out w4 b4;obtain⟨⟨m0,m1,m2,m3,m4,m5,m6,m7,m8,m9,m10⟩,-⟩:=hob_cells ((b4.block _ (Nat.lt_of_lt_of_le hU1 HUZ.out.size)).trans ((HUZ.out.block _ hU1).trans HQU.out));obtain⟨t0,-⟩:=stb_cells ((b4.block _ hZ3).trans HQZ.out);clear b4)
     |(go_at_call 34;refine CI.mono ?_;clear CI m0 m1 m2 m3 m4 m5 m6 m7 m8 m9 m10 t0;rintro e w5 ⟨rfl,b5⟩;have HB4':Hid _:=HB4.out.trans (b5.mono HB4.out.size);clear b5 HB4;have HB4:Hid _:=HB4'.out;clear HB4'))
    have HN4:Hid _:=nine_below HSZ.out.nine HB4.out
    have HO4:Hid _:=ownH_below HZO.out HB4.out
    have HN1:Hid _:=nine_below HT1.out (HXU.out.trans ((HUZ.out.trans (HB4.out.mono HUZ.out.size)).mono HXU.out.size))
    have HB5:Hid _:=HBU.out.trans ((HUZ.out.trans (HB4.out.mono HUZ.out.size)).mono HBU.out.size)
    obtain⟨⟨z0,z1,z2,z3,z4⟩,⟨z5,z6,z7,z8⟩,_⟩:=nine_cells HN4.out
    obtain⟨⟨y0,y1,y2,y3,y4⟩,⟨y5,y6,y7,y8⟩,yf⟩:=nine_cells HN1.out
    have f0:=yf 0
    have f1:=yf 1
    have f2:=yf 2
    have f3:=yf 3
    have f4:=yf 4
    have f5:=yf 5
    have f6:=yf 6
    have f7:=yf 7
    have f8:=yf 8
    clear yf
    go_wp2_with fail
    exact bodyPost_ret (res_heap rfl rfl (nine_sets HN1.out _ _ _ _ _ _ _ _ _)) rfl ⟨_,_,_,_,rfl,own_out HO4.out (by omega) (nine_other _ _ _ _ _ _ _ _ _),nine_belows HB5.out (Nat.le_succ _) _ _ _ _ _ _ _ _ _⟩
   case true=>
    have eA:swpF H ps L=SA:=(HSA.out.symm.trans (by unfold swpA;rw[HSTT.out,←HCC.out,hcl];rfl)).symm
    have HEA:Hid _:=eA
    rw[hcl]at HCLC
    clear hcl eA
    go_upto_region 8 with (first
     |(go_at_call 33;refine SI.mono ?_;clear SI m0 m1 m2 m3 m4 m5 m6 m7 m8 m9 m10;rintro e w4 ⟨rfl,b4⟩;have HB4:Hid _:=b4;have CI:=HCLC.out w4 b4;obtain⟨⟨m0,m1,m2,m3,m4,m5,m6,m7,m8,m9,m10⟩,-⟩:=hob_cells ((b4.block _ (Nat.lt_of_lt_of_le hU1 HUZ.out.size)).trans ((HUZ.out.block _ hU1).trans HQU.out));obtain⟨t0,-⟩:=stb_cells ((b4.block _ hZ3).trans HQZ.out);clear b4)
     |(go_at_call 34;refine CI.mono ?_;clear CI m0 m1 m2 m3 m4 m5 m6 m7 m8 m9 m10 t0;rintro e K ⟨rfl,b5⟩;have HZK:Hid _:=HB4.out.trans (b5.mono HB4.out.size);clear b5 HB4))
    have HSK:Hid _:=HSZ.out.below HZK.out
    have HQK:Hid _:=(HZK.out.block _ hZ3).trans HQZ.out
    have HHK:Hid _:=(HZK.out.block _ (Nat.lt_of_lt_of_le hU1 HUZ.out.size)).trans ((HUZ.out.block _ hU1).trans HQU.out)
    have hZK:=HZK.out.size
    obtain⟨⟨-, -, -, -, -, -, -, -, -, -, m10⟩,-⟩:=hob_cells HHK.out
    clear HSZ HQZ HQU HCLC HZO HCL HST HCI
    go_wp2_with fail
    clear m10
    go_loopw [8,35] (fun _ q wr=>∃i:Nat,i≤ds.length∧q = .int .i64 (i:Int)∧SS V wr w2.heap.size U.heap.size g1 g2 g3 H.row.length H.roots.length H.mourned.length H.row.length H.roots.length H.mourned.length (.slice (some ⟨g4,0,none⟩) H.seen.length H.seen.length) (.slice la L.length lc) H L (swpRow H L ((objL H ps).take i)) H.roots H.mourned∧Ch [g1] K wr) (fun _ q _=>ds.length-(intOf q).toNat)
    case atStart=>exact⟨0,Nat.zero_le _,rfl,by rw[List.take_zero];exact HSK.out,Ch.refl _ _⟩
    case round=>
     obtain⟨i,hi,rfl,hS,hC⟩:=hrel
     clear HSK
     have HUW:Hid (Below U.heap.size U wr):=HUV.out.trans (below_ch hS.ch HUV.out.size (fun k hk=>by
      have e:k=w2.heap.size∨k=g1∨k=g2∨k=g3:=by simpa using hk
      omega))
     have HSW:Hid _:=hS
     have HCW:Hid _:=hC
     by_cases hlt:i<ds.length
     ·have hlt':(i:Int)<(ds.length:Int):=by omega
      obtain⟨j,sn,cn,hd,hs20,hzn,hjn,hl1,hl2,hin1,hin2⟩:=HOS.out i hlt
      obtain⟨_,_,ev,_,_,_,hcs⟩:=pdsAt_below HPU.out HUW.out
      injection ev with ev1 _ ev3
      subst ev1 ev3
      obtain⟨mg,mo,ev4,hmg,hcell⟩:=hcs (by omega)
      subst ev4
      have hcd:=hcell i hlt
      rw[hd]at hcd
      obtain⟨p0,p1,p2,p3,p4,p5,p6,p7⟩:=hcd
      simp only at p0 p1 p2 p3 p4 p5 p6 p7
      have HI1:Hid _:=hin1
      have HI2:Hid _:=hin2
      have HL1:Hid _:=hl1
      have HL2:Hid _:=hl2
      clear hS hC hd hcs hcell hin1 hin2 hl1 hl2
      generalize uF (H.row.getD j 0)=f at *
      generalize uC (H.row.getD j 0)=c at *
      generalize uH (H.row.getD j 0)=g at *
      generalize uP (H.row.getD j 0)=pb at *
      generalize uM (H.row.getD j 0)=mk at *
      generalize hR0:swpRow H L ((objL H ps).take i)=R0 at *
      generalize hR1:swpRow H L ((objL H ps).take (i+1))=R1 at *
      have HR1:Hid _:=hR1
      clear hR0 hR1
      go_upto_region 11 with fail
      clear p0 p1 p2 p3 p4 p5 p6 p7
      have BY:Below wr.heap.size wr (wr.alloc (pdb ⟨(sn:Int),f,c,g,pb,mk,.slice (some ⟨b,off+j,none⟩) cn cn,(j:Int)⟩)):=(Below.refl _ _).alloc (Nat.le_refl _) _
      have QY:=heap_alloc_new wr (pdb ⟨(sn:Int),f,c,g,pb,mk,.slice (some ⟨b,off+j,none⟩) cn cn,(j:Int)⟩)
      have HSY:Hid _:=HSW.out.below BY
      have HCY:Hid _:=HCW.out.trans (ch_below BY)
      obtain⟨⟨p0,p1,p2,p3,p4,p5,p6,p7⟩,-⟩:=pdb_cells QY
      simp only at p0 p1 p2 p3 p4 p5 p6 p7
      clear BY QY HSW HCW
      generalize wr.alloc (pdb ⟨(sn:Int),f,c,g,pb,mk,.slice (some ⟨b,off+j,none⟩) cn cn,(j:Int)⟩)=Y at *
      have hzs:K.heap.size≤Y.heap.size:=HCY.out.size
      obtain⟨t0,-⟩:=stb_cells ((HCY.out.block _ (by omega) (by simp;omega)).trans HQK.out)
      have HS1:=hasM_any (C:=w3.heap.size) (o:=0) t0 (own_ints HSY.out.list) HLM.out.1 (by omega) (j:Int)
      by_cases hin:(j:Int) ∈ L
      ·have HE:Hid _:=HI1.out hin
       rw[decide_eq_true hin]at HS1
       clear hin
       go_wp2_with (go_at_call 35;refine HS1.mono ?_;clear HS1;rintro e w4 ⟨rfl,hw4⟩;rw[hw4];clear hw4 w4)
       exact⟨⟨i+1,by omega,by go_num,by rw[HR1.out,HE.out];exact HSY.out,HCY.out⟩,by simp[intOf];omega⟩
      ·have HE:Hid _:=HI2.out hin
       rw[decide_eq_false hin]at HS1
       have DR:=drop_any (w:=Y) (g:=g1) (len:=H.row.length) (cap:=H.row.length) (j:=j) (s:=sn) (n:=cn) (f:=f) (c:=c) (h:=g) (up:=2*H.half) (p:=pb) (m:=mk) (sb:=b) (so:=off+j) (va:=some ⟨mg,mo,none⟩) (vn:=ds.length) (vc:=c5) (own_full HSY.out.row rfl) HL1.out hrows hs20 hzn hjn (Nat.le_refl _)
       obtain⟨⟨-, -, -, -, -, -, -, -, -, m9,m10⟩,-⟩:=hob_cells ((HCY.out.block _ (by omega) (by simp;omega)).trans HHK.out)
       obtain⟨⟨-, -, z2,-, -⟩,⟨-, -, -, -⟩,-⟩:=nine_cells HSY.out.nine
       rw[←HE.out]at DR
       clear hin
       go_wp2_with (first
        |(go_at_call 35;refine HS1.mono ?_;clear HS1;rintro e w4 ⟨rfl,hw4⟩;rw[hw4];clear hw4 w4)
        |(go_at_call 36;refine DR.mono ?_;clear DR m9 m10 z2;rintro e w4 ⟨rfl,f4,c4'⟩;have HF4:Hid _:=f4;have HC4:Hid _:=chR c4';clear f4 c4'))
       have hw4:w4.ownsRow U.heap.size 2 1 (.slice (some ⟨g1,0,none⟩) H.row.length H.row.length) H.row.length (cellsOf R1):=by
        have q:=full_own (base:=U.heap.size) HF4.out (by omega) (by rw[HL2.out];exact Nat.le_trans hrows (by decide))
        unfold rows.Own at q
        rw[HL2.out]at q
        exact q
       exact⟨⟨i+1,by omega,by go_num,by rw[HR1.out];exact HSY.out.rowCh HDS.out hw4 HL2.out HC4.out,HCY.out.trans HC4.out⟩,by simp[intOf];omega⟩
     ·have hlt':¬(i:Int)<(ds.length:Int):=by omega
      have e:i=ds.length:=by omega
      subst e
      have eS:swpRow H L ((objL H ps).take ds.length)=swpRow H L (objL H ps):=by rw[HLN.out,List.take_length]
      have AL:=allI_swp (L:=L) HRT.out HII.out.2.1 (objL H ps).length (Nat.le_refl _)
      rw[List.take_length]at AL
      rw[eS]at HSW
      clear hS hC eS
      obtain⟨rr,uu,ll,F,T,-, -, -, -, hsl,-, -, hcl,hp',-, -, hnb⟩:=swp_places (L:=L) HRT.out.some' HRI.out
      have hown:rows.Own wr U.heap.size (.slice (some ⟨g1,0,none⟩) H.row.length H.row.length) (swpRow H L (objL H ps)):=by
       show World.ownsRow _ _ _ _ _ _ _
       rw[hsl];exact HSW.out.row
      have CO:=coalesceUp_any HSW.out.nine (own_ints hown) (by omega) AL ⟨HNB.out.1,HNB.out.2.1⟩ HNB.out.2.2
      have HN1:Hid _:=nine_below HT1.out (HXU.out.trans (HUW.out.mono HXU.out.size))
      have HB4:Hid _:=HBU.out.trans (HUW.out.mono HBU.out.size)
      have hUw:=HUW.out.size
      have HCA:Hid _:=allI_swpC (L:=L) HRT.out HII.out.2.1
      have HP':Hid _:=hp'
      have HNBC:Hid _:=hnb
      clear hown AL hsl hcl hp' hnb
      go_upto_region 15 with (go_at_call 37;refine CO.mono ?_;clear CO;rintro e w5 ⟨va,vn,vc,rfl,O5,N5,C5⟩;obtain⟨va',vc',ev5,_⟩:=own_ints O5;injection ev5 with ev51 ev52 ev53;subst ev51 ev52 ev53;have HO5:Hid _:=O5;have HN5:Hid _:=N5;have HC5:Hid _:=C5;clear O5 N5 C5)
      have hPP:∀k,k=g2∨k=g3→k≠w2.heap.size:=fun k hk=>by have d2:=HDS.out.po;have d3:=HDS.out.pm;omega
      have HK2:Hid (rows.Own w5 U.heap.size (.slice (some ⟨g2,0,none⟩) H.roots.length H.roots.length) H.roots):=row_ch HSW.out.roots HC5.out (fun j hj=>by rw[blk_of]at hj;simp at hj ⊢; exact hPP j (.inl hj))
      have HK3:Hid (rows.Own w5 U.heap.size (.slice (some ⟨g3,0,none⟩) H.mourned.length H.mourned.length) H.mourned):=row_ch HSW.out.mour HC5.out (fun j hj=>by rw[blk_of]at hj;simp at hj ⊢; exact hPP j (.inr hj))
      have k4:rows.Own w5 U.heap.size (.slice (some ⟨g4,0,none⟩) H.seen.length H.seen.length) H.seen:=row_ch HSW.out.seen HC5.out (fun j hj=>by have:=(HDS.out.sr j hj).2.2.2;simp;exact this)
      have SE:=seeAnew_any (w:=w5) (P:=w2.heap.size) (H:=swpC H ps L) (a1:=va) (c1:=vc) (a2:=some ⟨g2,0,none⟩) (c2:=H.roots.length) (a3:=some ⟨g3,0,none⟩) (c3:=H.mourned.length) (a4:=some ⟨g4,0,none⟩) (c4:=H.seen.length) HN5.out ⟨own_ints HO5.out,own_ints HK2.out,own_ints HK3.out,own_ints k4⟩ HNBC.out (roomB_of HNBC.out HP'.out) HCA.out
      clear k4
      go_upto_region 16 with (go_at_call 38;refine SE.mono ?_;clear SE;rintro e w6 ⟨u6,rfl,O6,N6,C6⟩;have HO6:Hid _:=O6;have HN6:Hid _:=N6;have HC6:Hid _:=C6;obtain⟨ua,un,uc,rfl⟩:=ints_slice (own_ints O6);clear O6 N6 C6)
      have d1:=HDS.out.pr
      have d2:=HDS.out.po
      have d3:=HDS.out.pm
      have d6:=HDS.out.om
      have hsv:=HSW.out.ch.size
      have hw5:=HC5.out.size
      have HNA:Hid _:=nine_ch HN1.out HC5.out (by simp;omega)
      have HNC:Hid _:=nine_ch HNA.out HC6.out (by simp;omega)
      have HB6:Hid _:=HB4.out.trans (below_ch (HC5.out.trans HC6.out) HB4.out.size (fun k hk=>by
       have e:k=w2.heap.size:=by simpa using hk
       omega))
      have HOF:Hid (OwnH w6 U.heap.size (.slice va (swpC H ps L).row.length vc) (.slice (some ⟨g2,0,none⟩) H.roots.length H.roots.length) (.slice (some ⟨g3,0,none⟩) H.mourned.length H.mourned.length) (.slice ua un uc) SA):=by
       rw[←HEA.out]
       have b5:=blk_lt HO5.out
       have b6:=blk_lt HO6.out
       refine⟨⟨own_base (row_ch HO5.out HC6.out (fun j hj=>by have:=b5 j hj;simp;omega)) (by omega),row_ch HK2.out HC6.out (fun j hj=>by rw[blk_of]at hj;simp at hj ⊢; omega),row_ch HK3.out HC6.out (fun j hj=>by rw[blk_of]at hj;simp at hj ⊢; omega),own_base HO6.out (by omega)⟩,?_⟩
       unfold hblk
       rw[blk_of,blk_of]
       have nb:∀v:Value,(blk v).Nodup:=fun v=>by unfold blk;cases v.ownBlock<;>simp
       refine List.nodup_append.2 ⟨List.nodup_append.2 ⟨List.nodup_append.2 ⟨nb _,by simp,fun a ha b hb e => ?_⟩,by simp,fun a ha b hb e => ?_⟩,nb _,fun a ha b hb e => ?_⟩
       ·have:=b5 a ha
        simp at hb
        omega
       ·simp at hb
        rcases List.mem_append.1 ha with ha|ha
        ·have:=b5 a ha
         omega
        ·simp at ha
         omega
       ·have h6:=b6 b hb
        rcases List.mem_append.1 ha with ha|ha
        ·rcases List.mem_append.1 ha with ha|ha
         ·have:=b5 a ha
          omega
         ·simp at ha
          omega
        ·simp at ha
         omega
      obtain⟨⟨z0,z1,z2,z3,z4⟩,⟨z5,z6,z7,z8⟩,-⟩:=nine_cells HN6.out
      obtain⟨⟨y0,y1,y2,y3,y4⟩,⟨y5,y6,y7,y8⟩,yf⟩:=nine_cells HNC.out
      have f0:=yf 0
      have f1:=yf 1
      have f2:=yf 2
      have f3:=yf 3
      have f4:=yf 4
      have f5:=yf 5
      have f6:=yf 6
      have f7:=yf 7
      have f8:=yf 8
      clear yf
      have HSE:Hid _:=HEA.out
      go_wp2_with fail
      exact bodyPost_ret (res_heap rfl rfl (nine_sets HNC.out _ _ _ _ _ _ _ _ _)) rfl ⟨_,_,_,_,by rw[←HSE.out];rfl,own_out HOF.out (by omega) (nine_other _ _ _ _ _ _ _ _ _),nine_belows HB6.out (Nat.le_succ _) _ _ _ _ _ _ _ _ _⟩
end Go.Proofs.YtocidankimefpaaGreatDoor.hp
