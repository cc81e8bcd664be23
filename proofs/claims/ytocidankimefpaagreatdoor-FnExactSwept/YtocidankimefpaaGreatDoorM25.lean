/-
  Chapter 9 as the program has it: a heap gone through, HeapOk and Young. Chapter 10 as the program has it: Follow. Chapter 10 as the specification has it: HashOf and ClassOf. Chapter 10 as the program has it: HashOf and ClassOf.
-/
import Derived.Test.YtocidankimefpaaGreatDoorM24
import Derived.Test.YtocidankimefpaaGreatDoorM20
import Derived.WalkMore
import Derived.Test.YtocidankimefpaaGreatDoorM22
import Derived.Deep.RegionLaw
namespace Go.Proofs.YtocidankimefpaaGreatDoor.hp
open Go.RowKit rows heads words walks
set_option maxRecDepth 100000
set_option linter.unusedVariables false
set_option linter.unusedSimpArgs false
def OpenR (w:World) (a1 a2 a3 a4:Option Addr) (c1 c2 c3 c4:Nat) (H:Hp) (e:Ending) (w':World):Prop:=(heapOk H=false→e = .returned (.tuple #[hov0,.bool false]))∧(heapOk H=true→∃a5 c5,e = .returned (.tuple #[hov H (.slice a1 H.row.length c1) (.slice a2 H.roots.length c2) (.slice a3 H.mourned.length c3) (.slice a4 H.seen.length c4) (2*H.half) (.slice a5 (objsP a1 H).length c5),.bool true])∧OwnP w' w.heap.size (.slice a5 (objsP a1 H).length c5) (objsP a1 H))∧Below w.heap.size w w'
set_option maxHeartbeats 16000000 in
theorem opened_any {w:World} {a1 a2 a3 a4:Option Addr} {c1 c2 c3 c4:Nat} {H:Hp} (h:HpAt w (.slice a1 H.row.length c1) (.slice a2 H.roots.length c2) (.slice a3 H.mourned.length c3) (.slice a4 H.seen.length c4) H) (hs:hpSize H≤1048576) (hI:HpI H) :
    Calls Tryz.prog 31 #[hpv H (.slice a1 H.row.length c1) (.slice a2 H.roots.length c2) (.slice a3 H.mourned.length c3) (.slice a4 H.seen.length c4)] w (OpenR w a1 a2 a3 a4 c1 c2 c3 c4 H):=by
 unfold OpenR
 have HOK:Hid _:=okB_is a1 H
 have HALL:Hid _:=hpX_all h
 have HOB:Hid (∀V,HpAt V (.slice a1 H.row.length c1) (.slice a2 H.roots.length c2) (.slice a3 H.mourned.length c3) (.slice a4 H.seen.length c4) H→Calls Tryz.prog 66 #[hpv H (.slice a1 H.row.length c1) (.slice a2 H.roots.length c2) (.slice a3 H.mourned.length c3) (.slice a4 H.seen.length c4)] V fun e w'=>(openB a1 H=false→e = .returned (.tuple #[hov0,.bool false]))∧(openB a1 H=true→∃a5 c5,e = .returned (.tuple #[hov H (.slice a1 H.row.length c1) (.slice a2 H.roots.length c2) (.slice a3 H.mourned.length c3) (.slice a4 H.seen.length c4) (2*H.half) (.slice a5 (objsP a1 H).length c5),.bool true])∧OwnP w' V.heap.size (.slice a5 (objsP a1 H).length c5) (objsP a1 H))∧Below V.heap.size V w'):=fun V hV=>openedButSeen_any hV hs hI
 have HII:Hid _:=hI
 have HSZ:Hid (H.seen.length≤1048576):=by unfold hpSize at hs;show _≤_;omega
 clear h hs hI
 go_enter Tryz.func31,Tryz.ntmps31
 go_upto_region 1 with fail
 generalize (w.alloc _).alloc _=X at *
 obtain⟨q0,_,hX,_,_⟩:=HALL.out X (Below.refl _ _)
 obtain⟨z0,z1,z2,z3,z4,z5,z6,z7,z8⟩:=hpb_cells q0
 have OX:=HOB.out X hX
 clear q0 hX HOB
 cases ho:openB a1 H
 ·have HO:Hid (heapOk H=false):=by show _=_;rw[←HOK.out];unfold okB;rw[ho];rfl
  have R0:=OX.mono (fun e w' (hh:_∧_∧_)=>(⟨hh.1 ho,hh.2.2⟩:e = .returned (.tuple #[hov0,.bool false])∧Below X.heap.size X w'))
  clear OX ho HOK
  go_upto_region 2 with (go_at_call 66;refine R0.mono ?_;clear R0 z0 z1 z2 z3 z4 z5 z6 z7 z8;rintro e w1 ⟨rfl,b1⟩;have HB1:Hid _:=b1;clear b1)
  have B2:Below w1.heap.size w1 (w1.alloc (hob hz s0 s0 s0 s0 0 s0)):=(Below.refl _ _).alloc (Nat.le_refl _) _
  have HB2:Hid _:=HB1.out.trans (B2.mono HB1.out.size)
  clear B2
  generalize w1.alloc (hob hz s0 s0 s0 s0 0 s0)=Y at *
  go_quiet (fail)
  have HD:Hid (Below Y.heap.size Y (Y.drewN nq)):=bel_of_drewN ⟨_,rfl⟩
  generalize Y.drewN nq=Y1 at *
  obtain⟨_,q1,_,bw,s3⟩:=HALL.out Y1 (HB2.out.trans (HD.out.mono HB2.out.size))
  obtain⟨⟨g0,g1,g2,g3,g4,g5,g6,g7,g8,g9,g10⟩,f0,f1,f2,f3,f4,f5,f6,f7,f8,f9,f10⟩:=hob_cells q1
  have HQ1:Hid _:=q1
  have HBW:Hid _:=bw
  clear q1 bw
  go_wp2_with fail
  exact bodyPost_ret (res_ho rfl rfl rfl (hob_set HQ1.out hz s0 s0 s0 s0 0 s0)) rfl ⟨fun _=>rfl,fun e=>absurd (HO.out.symm.trans e) (by decide),hob_below HBW.out (by omega) hz s0 s0 s0 s0 0 s0⟩
 have R0:=OX.mono (fun e w' (hh:_∧_∧_)=>(⟨hh.2.1 ho,hh.2.2⟩:(∃a5 c5,e = .returned (.tuple #[hov H (.slice a1 H.row.length c1) (.slice a2 H.roots.length c2) (.slice a3 H.mourned.length c3) (.slice a4 H.seen.length c4) (2*H.half) (.slice a5 (objsP a1 H).length c5),.bool true])∧OwnP w' X.heap.size (.slice a5 (objsP a1 H).length c5) (objsP a1 H))∧Below X.heap.size X w'))
 obtain⟨hn,hr,_⟩:=openB_parts ho
 have HO:Hid (heapOk H=decide (H.seen=mustL (2*H.half) (slP H.row) (objsP a1 H))):=by show _=_;rw[←HOK.out];unfold okB;rw[ho];rfl
 have HRA:Hid (∀V v,HpAt V (.slice a1 H.row.length c1) (.slice a2 H.roots.length c2) (.slice a3 H.mourned.length c3) (.slice a4 H.seen.length c4) H→PdsAt V v (objsP a1 H)→RoomsAt V v (objsP a1 H) (slP H.row)):=fun V v h1 h2=>roomsAt_of h1.1 hn hr HII.out.2.1 h2
 clear OX ho HOK hn hr
 go_upto_region 2 with (go_at_call 66;refine R0.mono ?_;clear R0 z0 z1 z2 z3 z4 z5 z6 z7 z8;rintro e w1 ⟨⟨a5,c5,rfl,O1⟩,b1⟩;have HB1:Hid _:=b1;have HO1:Hid _:=O1;clear b1 O1)
 have B2:Below w1.heap.size w1 (w1.alloc (hob H (.slice a1 H.row.length c1) (.slice a2 H.roots.length c2) (.slice a3 H.mourned.length c3) (.slice a4 H.seen.length c4) (2*H.half) (.slice a5 (objsP a1 H).length c5))):=(Below.refl _ _).alloc (Nat.le_refl _) _
 have HB2:Hid _:=HB1.out.trans (B2.mono HB1.out.size)
 have HQ2:Hid _:=heap_alloc_new w1 (hob H (.slice a1 H.row.length c1) (.slice a2 H.roots.length c2) (.slice a3 H.mourned.length c3) (.slice a4 H.seen.length c4) (2*H.half) (.slice a5 (objsP a1 H).length c5))
 have HO2:Hid _:=ownP_below HO1.out B2
 clear B2 HO1
 generalize w1.alloc (hob H (.slice a1 H.row.length c1) (.slice a2 H.roots.length c2) (.slice a3 H.mourned.length c3) (.slice a4 H.seen.length c4) (2*H.half) (.slice a5 (objsP a1 H).length c5))=Y at *
 generalize w1.heap.size=n1 at *
 have HY:Hid (∀V,Below Y.heap.size Y V→V.heap[n1]? = some (hob H (.slice a1 H.row.length c1) (.slice a2 H.roots.length c2) (.slice a3 H.mourned.length c3) (.slice a4 H.seen.length c4) (2*H.half) (.slice a5 (objsP a1 H).length c5))∧V.heap[w.heap.size+1]? = some (hob hz s0 s0 s0 s0 0 s0)∧HpAt V (.slice a1 H.row.length c1) (.slice a2 H.roots.length c2) (.slice a3 H.mourned.length c3) (.slice a4 H.seen.length c4) H∧RoomsAt V (.slice a5 (objsP a1 H).length c5) (objsP a1 H) (slP H.row)∧OwnP V X.heap.size (.slice a5 (objsP a1 H).length c5) (objsP a1 H)∧Below w.heap.size w V∧w.heap.size+2≤V.heap.size):=by
  intro V hV
  obtain⟨_,k1,k2,k3,k4⟩:=HALL.out V (HB2.out.trans (hV.mono HB2.out.size))
  exact⟨(hV.block _ (lt_of_block HQ2.out)).trans HQ2.out,k1,k2,HRA.out V _ k2 (ownP_at (ownP_below HO2.out hV)),ownP_below HO2.out hV,k3,k4⟩
 have HM:Hid (∀V,Below Y.heap.size Y V→Calls Tryz.prog 68 #[rmv (2*H.half) (.slice a5 (objsP a1 H).length c5)] V fun e w'=>∃u,e = .returned u∧rows.Own w' V.heap.size u (mustL (2*H.half) (slP H.row) (objsP a1 H))∧Below V.heap.size V w'):=fun V hV=>by
  obtain⟨_,_,_,r,_⟩:=HY.out V hV
  exact mustSee_any r.pds r.slices (Nat.le_trans r.len (by decide)) r.slots
 have HE:Hid (∀V u,Below Y.heap.size Y V→IntsAt V u (mustL (2*H.half) (slP H.row) (objsP a1 H))→Calls Tryz.prog 67 #[.slice a4 H.seen.length c4,u] V fun e w'=>e = .returned (.bool (heapOk H))∧Below V.heap.size V w'):=fun V u hV hu=>by
  obtain⟨_,_,k2,r,_⟩:=HY.out V hV
  have:=equal_any k2.2.2.2 hu HSZ.out (Nat.le_trans (mustL_len _ _ _) (Nat.le_trans r.len (by decide)))
  rwa [←HO.out]at this
 have sX2:w.heap.size+2≤X.heap.size:=(HALL.out X (Below.refl _ _)).2.2.2.2
 obtain⟨P,hP⟩:∃P,heapOk H=P:=⟨_,rfl⟩
 simp only[hP]at HE
 have HPP:Hid _:=hP
 clear HO HRA HALL HB1 HB2 HQ2 HO2 HII HSZ hP
 obtain⟨qY,_⟩:=HY.out Y (Below.refl _ _)
 obtain⟨⟨m0,m1,m2,m3,m4,m5,m6,m7,m8,m9,m10⟩,_⟩:=hob_cells qY
 clear qY
 go_cut [22] from 11 to 22 (fun v wz=>v = .bool (!P)∧Hid (Below Y.heap.size Y wz))
 case first=>
  have HG:Hid (∀(V w':World),Below V.heap.size V w'→Below Y.heap.size Y V→w'.heap[n1]? = some (hob H (.slice a1 H.row.length c1) (.slice a2 H.roots.length c2) (.slice a3 H.mourned.length c3) (.slice a4 H.seen.length c4) (2*H.half) (.slice a5 (objsP a1 H).length c5))∧Below Y.heap.size Y w'):=by
   intro V w' h1 h2
   have h3:Below Y.heap.size Y w':=h2.trans (h1.mono h2.size)
   exact⟨(HY.out w' h3).1,h3⟩
  go_region_law (first
   |(go_simp;go_at_call 68;refine Calls.mono (HM.out _ ⟨rfl,rfl,rfl,Nat.le_refl _,fun _ _=>rfl⟩) ?_;rintro e w5 ⟨u5,rfl,o5,b5⟩;obtain⟨q5,x5⟩:=HG.out _ _ b5 ⟨rfl,rfl,rfl,Nat.le_refl _,fun _ _=>rfl⟩;obtain⟨⟨p0,p1,p2,p3,p4,p5,p6,p7,p8,p9,p10⟩,_⟩:=hob_cells q5;have HO5:Hid _:=own_ints o5;obtain⟨ua,uc,hu5,_⟩:=own_ints o5;subst hu5;have HX5:Hid _:=x5;clear HM o5 b5 q5 x5)
   |(go_simp;go_at_call 67;refine Calls.mono (HE.out _ _ ⟨HX5.out.os,HX5.out.tape,HX5.out.output,HX5.out.size,HX5.out.block⟩ HO5.out) ?_;rintro e w6 ⟨rfl,b6⟩;have HX6:Hid (Below Y.heap.size Y w6):=(HG.out w5 w6 ⟨b6.os,b6.tape,b6.output,b6.size,b6.block⟩ HX5.out).2;clear HE b6))
  all_goals (go_wp2_with fail)
  all_goals (go_meet;exact⟨rfl,HX6.out⟩)
 obtain⟨rfl,bc⟩:=hcut
 clear m0 m1 m2 m3 m4 m5 m6 m7 m8 m9 m10 HM HE
 obtain⟨qY,q1,_,_,o7,bw,s7⟩:=HY.out wc bc.out
 obtain⟨⟨g0,g1,g2,g3,g4,g5,g6,g7,g8,g9,g10⟩,f0,f1,f2,f3,f4,f5,f6,f7,f8,f9,f10⟩:=hob_cells q1
 have HQ1:Hid _:=q1
 have HBW:Hid _:=bw
 have HO7:Hid _:=o7
 cases P
 ·clear q1 qY bw o7
  go_wp2_with fail
  exact bodyPost_ret (res_ho rfl rfl rfl (hob_set HQ1.out hz s0 s0 s0 s0 0 s0)) rfl ⟨fun _=>rfl,fun e=>absurd (HPP.out.symm.trans e) (by decide),hob_below HBW.out (by omega) hz s0 s0 s0 s0 0 s0⟩
 ·obtain⟨⟨m0,m1,m2,m3,m4,m5,m6,m7,m8,m9,m10⟩,_⟩:=hob_cells qY
  clear q1 qY bw o7
  go_wp2_with fail
  refine bodyPost_ret (res_ho rfl rfl rfl (hob_set HQ1.out H (.slice a1 H.row.length c1) (.slice a2 H.roots.length c2) (.slice a3 H.mourned.length c3) (.slice a4 H.seen.length c4) (2*H.half) (.slice a5 (objsP a1 H).length c5))) rfl ⟨fun e=>absurd (HPP.out.symm.trans e) (by decide),fun _=>⟨a5,c5,rfl,?_⟩,hob_below HBW.out (by omega) H (.slice a1 H.row.length c1) (.slice a2 H.roots.length c2) (.slice a3 H.mourned.length c3) (.slice a4 H.seen.length c4) (2*H.half) (.slice a5 (objsP a1 H).length c5)⟩
  refine ownP_base (row_ch (S:=[w.heap.size+1]) HO7.out (hob_ch _ _ _ _ _ _ _ _ _) (fun k hk => ?_)) (by omega)
  have:=(blk_lt HO7.out k hk).1
  simp
  omega
structure FolP (H:Hp) (ps:List Int) (ds:List Pd) (sl:Pd→List Int):Prop where
 rt:Rt H ps
 note:NoteP ds sl (ntH H) (nxH H)
 word:∀x,holdW ds x=wordIn H ps x
 first:∀i,i<ds.length→(ds.getD i pdD).f=7→(sl (ds.getD i pdD)).getD 0 0=H.row.getD ((ds.getD i pdD).pl.toNat+1) 0
theorem folP_of {a:Option Addr} {H:Hp} (h:heapOk H=true):∃ps,FolP H ps (objsP a H) (slP H.row):=by
 have hr:=(ok_right h).1
 obtain⟨ps,R⟩:=rt_of hr
 rw[←openB_is a H]at hr
 obtain⟨hn,hro,hS,_,_⟩:=openB_parts hr
 have hb:placesB H=some ps:=by
  have:=R.some'
  unfold placesR at this
  split at this
  ·cases this
  ·exact this
 have RM:=rooms_of (a:=a) hn hro hb R.some'
 refine⟨ps,R,noteP_of hn hro hS,RM.word,fun i hi h7 => ?_⟩
 obtain⟨j,e,hc,h6⟩:=objs_in hro _ (mem_getDP hi)
 rw[e]at h7 ⊢
 rw[(slP_note (a:=a) hc h7).2,pdOf_pl,Int.toNat_natCast];rfl
set_option maxHeartbeats 16000000 in
theorem follow_any {w:World} {up:Int} {a:Option Addr} {cap:Nat} {H:Hp} {ps:List Int} {ds:List Pd} {sl:Pd→List Int} (hv:RoomsAt w (.slice a ds.length cap) ds sl) (hF:FolP H ps ds sl) (x:Int) (hx:wordIn H ps x=true) (hb:I64 x) :
    Calls Tryz.prog 156 #[rmv up (.slice a ds.length cap),.int .i64 x] w fun e w'=>e = .returned (.int .i64 (fol H x))∧Below w.heap.size w w':=by
 have B0:Below w.heap.size w (w.alloc (rmb up (.slice a ds.length cap))):=(Below.refl _ _).alloc (Nat.le_refl _) _
 have HALL:Hid (∀V,Below (w.alloc (rmb up (.slice a ds.length cap))).heap.size (w.alloc (rmb up (.slice a ds.length cap))) V→(V.cell? ⟨w.heap.size,0,none⟩=some (.int .i64 up)∧V.cell? ⟨w.heap.size,1,none⟩=some (.slice a ds.length cap))∧Below w.heap.size w V):=by
  intro V hV
  have q0:V.heap[w.heap.size]? = some (rmb up (.slice a ds.length cap)):=(hV.block _ (by simp)).trans (heap_alloc_new w _)
  exact⟨(rmb_cells q0).1,B0.trans (hV.mono B0.size)⟩
 have HLB:Hid (∀V,Below w.heap.size w V→∀x,I64 x→Calls Tryz.prog 121 #[rmv up (.slice a ds.length cap),.int .i64 x] V fun e w'=>(ledB ds x=false→e = .returned (.tuple #[pdv pdD,.bool false]))∧(ledB ds x=true→∃i,i<ds.length∧(ds.getD i pdD).pl=av x∧e = .returned (.tuple #[pdv (ds.getD i pdD),.bool true]))∧Below V.heap.size V w'):=fun V hV x hx=>ledBy_any (pdsAt_below hv.pds hV) hv.slices hv.rise (Nat.le_trans hv.len (by decide)) x hx.1 hx.2
 have HSL:Hid _:=hv.slices
 have HSP:Hid _:=hv.slots
 have HFP:Hid _:=hF
 obtain⟨A,hA⟩:∃A,fol H x=A:=⟨_,rfl⟩
 rw[hA]
 have HA:Hid _:=hA
 have HX:Hid _:=hx
 have HXB:Hid _:=hb
 clear hv hF B0 hA hx hb
 go_enter Tryz.func156,Tryz.ntmps156
 go_wp2_with fail
 generalize w.alloc (rmb up (.slice a ds.length cap))=X at *
 go_step3
 go_wp2_with fail
 go_step3
 go_wp2_with fail
 go_loopw [1,5,6] (fun u _ _ wz=>∃y:Int,u = .int .i64 y∧wordIn H ps y=true∧I64 y∧fol H y=A∧Below X.heap.size X wz) (fun u _ _ _=>rk H (intOf u))
 case atStart=>exact⟨x,rfl,HX.out,HXB.out,HA.out,Below.refl _ _⟩
 case round=>
  obtain⟨y,rfl,hy,hyb,hF,hB⟩:=hrel
  clear HA HX HXB
  have HB:Hid _:=hB
  obtain⟨⟨z0,z1⟩,bw⟩:=HALL.out wr hB
  have LB:=HLB.out wr bw y hyb
  have hw:=HFP.out.word y
  rw[hy]at hw
  cases hl:ledB ds y
  ·have HE:Hid (A=y):=by
     show _=_
     rw[←hF]
     refine fol_stop ?_
     unfold toNote
     unfold ledB at hl
     unfold holdW at hw
     cases e:isA y
     ·rfl
     ·rw[e]at hl hw
      rw[Bool.true_and]at hl
      rw[if_pos rfl,hl]at hw
      cases hw
   have L0:=LB.mono (fun e w' (hh:_∧_∧_)=>(⟨hh.1 hl,hh.2.2⟩:e = .returned (.tuple #[pdv pdD,.bool false])∧Below wr.heap.size wr w'))
   have HBW:Hid _:=bw
   clear LB hl hw hF hy bw hB
   go_upto_region 2 with (go_at_call 121;refine L0.mono ?_;clear L0 z0 z1;rintro e w3 ⟨rfl,b3⟩;have HB3:Hid _:=HBW.out.trans (b3.mono HBW.out.size);clear b3)
   obtain⟨⟨p0,p1,p2,p3,p4,p5,p6,p7⟩,_⟩:=pdb_cells (heap_alloc_new w3 (pdb pdD))
   have HB4:Hid _:=HB3.out.alloc HB3.out.size (pdb pdD)
   generalize w3.alloc (pdb pdD)=Y at *
   go_wp2
   try rw[Exit.noGoto_ret]
   go_ret
   exact⟨by rw[HE.out];rfl,HB4.out⟩
  ·have L0:=LB.mono (fun e w' (hh:_∧_∧_)=>(⟨hh.2.1 hl,hh.2.2⟩:(∃i,i<ds.length∧(ds.getD i pdD).pl=av y∧e = .returned (.tuple #[pdv (ds.getD i pdD),.bool true]))∧Below wr.heap.size wr w'))
   have hAy:isA y=true:=by
    unfold ledB at hl
    rw[Bool.and_eq_true]at hl
    exact hl.1
   have HST:Hid (toNote H y=false→A=y):=fun e=>by rw[←hF];exact fol_stop e
   have HNT:Hid (toNote H y=true→_):=fun e=>HFP.out.rt.note hy e
   have HFY:Hid _:=hF
   have HBW:Hid _:=bw
   have HAY:Hid _:=hAy
   clear LB hl hw hF hy bw hB hAy
   go_upto_region 2 with (go_at_call 121;refine L0.mono ?_;clear L0 z0 z1;rintro e w3 ⟨⟨i,hi,hpl,rfl⟩,b3⟩;have HB3:Hid (Below X.heap.size X w3):=HB.out.trans (b3.mono HB.out.size);obtain⟨sa,sn,sc,hsv⟩:=HSL.out _ (mem_getDP hi);have HN1:Hid _:=HFP.out.note.isNote i hi;have HSO:Hid _:=HFP.out.note.some' i hi;have HFI:Hid _:=HFP.out.first i hi;have HSC:Hid _:=(fun V hV=>HSP.out.call V hV i hi);have HSN:Hid _:=HSP.out.num i hi;obtain⟨d,hd⟩:∃d,ds.getD i pdD=d:=⟨_,rfl⟩;simp only[hd]at hsv hpl HN1 HSO HFI HSC HSN;rw[hd];obtain⟨ds',df,dc,dh,dp,dm,du,dl⟩:=d;simp only at hsv hpl HN1 HSO HFI HSC;subst hsv;have HPL:Hid _:=hpl;clear b3 hd hpl)
   obtain⟨⟨p0,p1,p2,p3,p4,p5,p6,p7⟩,_⟩:=pdb_cells (heap_alloc_new w3 (pdb ⟨ds',df,dc,dh,dp,dm,.slice sa sn sc,dl⟩))
   simp only at p0 p1 p2 p3 p4 p5 p6 p7
   have HB4:Hid (Below X.heap.size X (w3.alloc (pdb ⟨ds',df,dc,dh,dp,dm,.slice sa sn sc,dl⟩))):=HB3.out.alloc HB3.out.size _
   generalize w3.alloc (pdb ⟨ds',df,dc,dh,dp,dm,.slice sa sn sc,dl⟩)=Y at *
   have htn:toNote H y=(df==7):=by unfold toNote;rw[HAY.out,Bool.true_and,←HPL.out];exact HN1.out.symm
   cases h7:(df==7)
   ·have h7':¬df=7:=by simpa using h7
    have HE:Hid (A=y):=HST.out (by rw[htn];exact h7)
    have HBE:Hid _:=(HALL.out Y HB4.out).2
    clear htn HST HNT
    go_wp2
    try rw[Exit.noGoto_ret]
    go_ret
    exact⟨by rw[HE.out];rfl,HBE.out⟩
   ·obtain rfl:df=7:=by simpa using h7
    obtain⟨_,n2,n3,n4,n5⟩:=HNT.out (by rw[htn];rfl)
    have hxp:=HSO.out (by trivial)
    have hfi:=HFI.out (by trivial)
    have hz:noteW H y=(sl ⟨ds',7,dc,dh,dp,dm,.slice sa sn sc,dl⟩).getD 0 0:=by unfold noteW;rw[←HPL.out];exact hfi.symm
    have hzb:=getD_num HSN.out hxp
    have BY:=(HALL.out Y HB4.out).2
    have NA:=note_any (w:=Y) hxp (fun V' hV'=>HSC.out V' (BY.trans (hV'.mono BY.size)))
    rw[←hz]at NA hzb
    have HN:Hid (wordIn H ps (noteW H y)=true∧I64 (noteW H y)∧fol H (noteW H y)=A∧rk H (noteW H y)<rk H y):=⟨n2,hzb,by rw[←n4];exact HFY.out,n5⟩
    clear htn HST HNT h7 hz hfi hxp hzb n2 n3 n4 n5 BY
    generalize noteW H y=z at *
    go_wp2_with (go_at_call 153;refine NA.mono ?_;clear NA p0 p1 p2 p3 p4 p5 p6 p7;rintro e w5 ⟨rfl,b5⟩;have HB5:Hid _:=HB4.out.trans (b5.mono HB4.out.size);clear b5)
    exact⟨⟨z,rfl,HN.out.1,HN.out.2.1,HN.out.2.2.1,HB5.out⟩,HN.out.2.2.2⟩
end Go.Proofs.YtocidankimefpaaGreatDoor.hp
namespace Go.Proofs.YtocidankimefpaaGreatDoor.hp
open Go.RowKit rows heads words walks region
set_option maxRecDepth 100000
set_option linter.unusedVariables false
set_option linter.unusedSimpArgs false
end Go.Proofs.YtocidankimefpaaGreatDoor.hp
namespace Go.Proofs.YtocidankimefpaaGreatDoor.hp
open Go.RowKit rows heads words walks
set_option maxRecDepth 100000
set_option linter.unusedVariables false
set_option linter.unusedSimpArgs false
theorem FolP.led {H:Hp} {ps:List Int} {ds:List Pd} {sl:Pd→List Int} (h:FolP H ps ds sl) {x:Int} (hx:wordIn H ps x=true):ledB ds x=isA x:=by
 have hw:=h.word x
 rw[hx]at hw
 unfold ledB
 unfold holdW at hw
 cases e:isA x
 ·rfl
 ·rw[e,if_pos rfl]at hw
  rw[hw];rfl
theorem fol_num {H:Hp} (hr:AllI H.row):∀(n:Nat) (x:Int),I64 x→I64 (folL H n x)
 |0,x,h=>h
 |n+1,x,h=>by
  unfold folL
  split
  ·refine fol_num hr n _ ?_
   unfold noteW
   by_cases e:(av x).toNat+1<H.row.length
   ·rw[List.getD_eq_getElem?_getD,List.getElem?_eq_getElem e]
    exact hr _ (List.getElem_mem e)
   ·rw[List.getD_eq_getElem?_getD,List.getElem?_eq_none (by omega)]
    exact⟨by decide,by decide⟩
  ·exact h
set_option maxHeartbeats 16000000 in
theorem standing_any {w:World} {up:Int} {a:Option Addr} {cap:Nat} {H:Hp} {ps:List Int} {ds:List Pd} {sl:Pd→List Int} (hv:RoomsAt w (.slice a ds.length cap) ds sl) (hF:FolP H ps ds sl) (hr:AllI H.row) (x:Int) (hx:wordIn H ps x=true) (hb:I64 x) :
    Calls Tryz.prog 117 #[rmv up (.slice a ds.length cap),.int .i64 x] w fun e w'=>(isA (fol H x)=false→e = .returned (.tuple #[pdv pdD,.bool false]))∧(isA (fol H x)=true→∃i,i<ds.length∧(ds.getD i pdD).pl=av (fol H x)∧e = .returned (.tuple #[pdv (ds.getD i pdD),.bool true]))∧Below w.heap.size w w':=by
 have B0:Below w.heap.size w (w.alloc (rmb up (.slice a ds.length cap))):=(Below.refl _ _).alloc (Nat.le_refl _) _
 have B1:=B0.alloc B0.size (pdb pdD)
 have hyw:=(hF.rt.followed hx).1
 have hyb:I64 (fol H x):=fol_num hr 1000 x hb
 have hyl:=hF.led hyw
 have HFO:Hid (∀V,Below w.heap.size w V→Calls Tryz.prog 156 #[rmv up (.slice a ds.length cap),.int .i64 x] V fun e w'=>e = .returned (.int .i64 (fol H x))∧Below V.heap.size V w'):=fun V hV=>follow_any (hv.below hV) hF x hx hb
 obtain⟨y,hy⟩:∃y,fol H x=y:=⟨_,rfl⟩
 rw[hy]at hyb hyl
 simp only[hy]at HFO
 rw[hy]
 have HLB:Hid (∀V,Below w.heap.size w V→Calls Tryz.prog 121 #[rmv up (.slice a ds.length cap),.int .i64 y] V fun e w'=>(isA y=false→e = .returned (.tuple #[pdv pdD,.bool false]))∧(isA y=true→∃i,i<ds.length∧(ds.getD i pdD).pl=av y∧e = .returned (.tuple #[pdv (ds.getD i pdD),.bool true]))∧Below V.heap.size V w'):=fun V hV=>by
  have:=ledBy_any (up:=up) (pdsAt_below hv.pds hV) hv.slices hv.rise (Nat.le_trans hv.len (by decide)) y hyb.1 hyb.2
  rwa [hyl]at this
 have HSL:Hid _:=hv.slices
 have HALL:Hid (∀V,Below ((w.alloc (rmb up (.slice a ds.length cap))).alloc (pdb pdD)).heap.size ((w.alloc (rmb up (.slice a ds.length cap))).alloc (pdb pdD)) V→(V.cell? ⟨w.heap.size,0,none⟩=some (.int .i64 up)∧V.cell? ⟨w.heap.size,1,none⟩=some (.slice a ds.length cap))∧V.heap[w.heap.size+1]? = some (pdb pdD)∧Below w.heap.size w V∧w.heap.size+2≤V.heap.size):=by
  intro V hV
  have T1:=heap_alloc_new (w.alloc (rmb up (.slice a ds.length cap))) (pdb pdD)
  have T2:Below (w.heap.size+1) (w.alloc (rmb up (.slice a ds.length cap))) V:=((Below.refl _ _).alloc (by simp) _).trans (hV.mono (by simp))
  have q0:V.heap[w.heap.size]? = some (rmb up (.slice a ds.length cap)):=(T2.block _ (by omega)).trans (heap_alloc_new w _)
  have q1:V.heap[w.heap.size+1]? = some (pdb pdD):=(hV.block (w.heap.size+1) (by simp)).trans ((congrArg (fun k=>((w.alloc (rmb up (.slice a ds.length cap))).alloc (pdb pdD)).heap[k]?) (show w.heap.size+1=(w.alloc (rmb up (.slice a ds.length cap))).heap.size by simp)).trans T1)
  have hsz:=hV.size
  exact⟨(rmb_cells q0).1,q1,B1.trans (hV.mono B1.size),by simpa using hsz⟩
 clear hv hF hr hx hb B0 B1 hyw hyb hyl hy
 go_enter Tryz.func117,Tryz.ntmps117
 go_upto_region 1 with fail
 generalize (w.alloc _).alloc _=X at *
 obtain⟨⟨z0,z1⟩,_⟩:=HALL.out X (Below.refl _ _)
 have HG:Hid (∀(V w':World),Below V.heap.size V w'→Below X.heap.size X V→(w'.cell? ⟨w.heap.size,0,none⟩=some (.int .i64 up)∧w'.cell? ⟨w.heap.size,1,none⟩=some (.slice a ds.length cap))∧w'.heap[w.heap.size+1]? = some (pdb pdD)∧Below w.heap.size w w'∧w.heap.size+2≤w'.heap.size∧Below X.heap.size X w'):=by
  intro V w' h1 h2
  have hX:Below X.heap.size X w':=h2.trans (h1.mono h2.size)
  obtain⟨hz,q,hw,s⟩:=HALL.out w' hX
  exact⟨hz,q,hw,s,hX⟩
 have HGB:Hid (∀V,Below X.heap.size X V→Below w.heap.size w V):=fun V hV=>(HG.out X V hV (Below.refl _ _)).2.2.1
 clear HALL
 cases dA:isA y
 ·have HDA:Hid _:=dA
  simp only[dA]at HLB
  clear dA
  have HL0:Hid (∀V,Below w.heap.size w V→Calls Tryz.prog 121 #[rmv up (.slice a ds.length cap),.int .i64 y] V fun e w'=>e = .returned (.tuple #[pdv pdD,.bool false])∧Below V.heap.size V w'):=fun V hV=>(HLB.out V hV).mono (fun e w' hh=>⟨hh.1 (by trivial),hh.2.2⟩)
  clear HLB
  go_region_law (first
   |(go_simp;go_at_call 156;refine Calls.mono (HFO.out _ (HGB.out _ ⟨rfl,rfl,rfl,Nat.le_refl _,fun _ _=>rfl⟩)) ?_;rintro e w5 ⟨rfl,b5⟩;obtain⟨⟨t0,t1⟩,_,y5,_,x5⟩:=HG.out _ _ b5 ⟨rfl,rfl,rfl,Nat.le_refl _,fun _ _=>rfl⟩;have HW5:Hid _:=y5;have HX5:Hid _:=x5;clear HFO b5 y5 x5 HGB)
   |(go_simp;go_at_call 121;refine Calls.mono (HL0.out _ ⟨HW5.out.os,HW5.out.tape,HW5.out.output,HW5.out.size,HW5.out.block⟩) ?_;rintro e w6 ⟨rfl,b6⟩;obtain⟨_,q6,bw6,s6,_⟩:=HG.out w5 w6 ⟨b6.os,b6.tape,b6.output,b6.size,b6.block⟩ HX5.out;obtain⟨⟨g0,g1,g2,g3,g4,g5,g6,g7⟩,f0,f1,f2,f3,f4,f5,f6,f7⟩:=pdb_cells q6;have HQ6:Hid _:=q6;have HBW:Hid _:=bw6;clear HL0 b6 q6 bw6 HG))
  all_goals (go_wp2_with fail)
  all_goals exact bodyPost_ret (res_pd rfl rfl rfl (pdb_set HQ6.out pdD)) rfl ⟨fun _=>rfl,fun e=>absurd (HDA.out.symm.trans e) (by decide),pdb_below HBW.out (by omega) pdD⟩
 ·have HDA:Hid _:=dA
  simp only[dA]at HLB
  clear dA
  have HL0:Hid (∀V,Below w.heap.size w V→Calls Tryz.prog 121 #[rmv up (.slice a ds.length cap),.int .i64 y] V fun e w'=>(∃i,i<ds.length∧(ds.getD i pdD).pl=av y∧e = .returned (.tuple #[pdv (ds.getD i pdD),.bool true]))∧Below V.heap.size V w'):=fun V hV=>(HLB.out V hV).mono (fun e w' hh=>⟨hh.2.1 (by trivial),hh.2.2⟩)
  clear HLB
  go_region_law (first
   |(go_simp;go_at_call 156;refine Calls.mono (HFO.out _ (HGB.out _ ⟨rfl,rfl,rfl,Nat.le_refl _,fun _ _=>rfl⟩)) ?_;rintro e w5 ⟨rfl,b5⟩;obtain⟨⟨t0,t1⟩,_,y5,_,x5⟩:=HG.out _ _ b5 ⟨rfl,rfl,rfl,Nat.le_refl _,fun _ _=>rfl⟩;have HW5:Hid _:=y5;have HX5:Hid _:=x5;clear HFO b5 y5 x5 HGB)
   |(go_simp;go_at_call 121;refine Calls.mono (HL0.out _ ⟨HW5.out.os,HW5.out.tape,HW5.out.output,HW5.out.size,HW5.out.block⟩) ?_;rintro e w6 ⟨⟨i,hi,hpl,rfl⟩,b6⟩;obtain⟨_,q6,bw6,s6,_⟩:=HG.out w5 w6 ⟨b6.os,b6.tape,b6.output,b6.size,b6.block⟩ HX5.out;obtain⟨⟨g0,g1,g2,g3,g4,g5,g6,g7⟩,f0,f1,f2,f3,f4,f5,f6,f7⟩:=pdb_cells q6;have HQ6:Hid _:=q6;have HBW:Hid _:=bw6;obtain⟨sa,sn,sc,hsv⟩:=HSL.out _ (mem_getDP hi);obtain⟨d,hd⟩:∃d,ds.getD i pdD=d:=⟨_,rfl⟩;rw[hd]at hsv hpl ⊢; have HD:Hid _:=hd;have HPL:Hid _:=hpl;obtain⟨ds',df,dc,dh,dp,dm,du,dl⟩:=d;simp only at hsv;subst hsv;clear HL0 b6 q6 bw6 HG hd hpl))
  all_goals (go_wp2_with fail)
  all_goals exact bodyPost_ret (res_pd rfl rfl rfl (pdb_set HQ6.out ⟨ds',df,dc,dh,dp,dm,.slice sa sn sc,dl⟩)) rfl ⟨fun e=>absurd (HDA.out.symm.trans e) (by decide),fun _=>⟨i,hi,(by first|(rw[HD.out];exact HPL.out)|(have q:=HD.out;rw[List.getD_eq_getElem?_getD]at q;rw[q];exact HPL.out)),(by first|rw[HD.out]|(have q:=HD.out;rw[List.getD_eq_getElem?_getD]at q;rw[q]))⟩,pdb_below HBW.out (by omega) ⟨ds',df,dc,dh,dp,dm,.slice sa sn sc,dl⟩⟩
end Go.Proofs.YtocidankimefpaaGreatDoor.hp
