/-
  Chapter 9 as the program has it: a heap gone through, HeapOk and Young.
  Made from the template HeapI21.
-/
import Derived.Test.YtemlagfaaibenaaGreatHeapI20
namespace Go.Proofs.YtemlagfaaibenaaGreat.hp
open Go.RowKit rows heads words walks
set_option maxRecDepth 100000
set_option linter.unusedVariables false
set_option linter.unusedSimpArgs false
def OpenR (w:World) (a1 a2 a3 a4:Option Addr) (c1 c2 c3 c4:Nat) (H:Hp) (e:Ending) (w':World):Prop:=(heapOk H=false→e = .returned (.tuple #[hov0,.bool false]))∧(heapOk H=true→∃a5 c5,e = .returned (.tuple #[hov H (.slice a1 H.row.length c1) (.slice a2 H.roots.length c2) (.slice a3 H.mourned.length c3) (.slice a4 H.seen.length c4) (2*H.half) (.slice a5 (objsP a1 H).length c5),.bool true])∧OwnP w' w.heap.size (.slice a5 (objsP a1 H).length c5) (objsP a1 H))∧Below w.heap.size w w'
set_option maxHeartbeats 16000000 in
theorem opened_any {w:World} {a1 a2 a3 a4:Option Addr} {c1 c2 c3 c4:Nat} {H:Hp} (h:HpAt w (.slice a1 H.row.length c1) (.slice a2 H.roots.length c2) (.slice a3 H.mourned.length c3) (.slice a4 H.seen.length c4) H) (hs:hpSize H≤1048576) (hI:HpI H) :
    Calls Tryz.prog 28 #[hpv H (.slice a1 H.row.length c1) (.slice a2 H.roots.length c2) (.slice a3 H.mourned.length c3) (.slice a4 H.seen.length c4)] w (OpenR w a1 a2 a3 a4 c1 c2 c3 c4 H):=by
 unfold OpenR
 have HOK:Hid _:=okB_is a1 H
 have HALL:Hid _:=hpX_all h
 have HOB:Hid (∀V,HpAt V (.slice a1 H.row.length c1) (.slice a2 H.roots.length c2) (.slice a3 H.mourned.length c3) (.slice a4 H.seen.length c4) H→Calls Tryz.prog 58 #[hpv H (.slice a1 H.row.length c1) (.slice a2 H.roots.length c2) (.slice a3 H.mourned.length c3) (.slice a4 H.seen.length c4)] V fun e w'=>(openB a1 H=false→e = .returned (.tuple #[hov0,.bool false]))∧(openB a1 H=true→∃a5 c5,e = .returned (.tuple #[hov H (.slice a1 H.row.length c1) (.slice a2 H.roots.length c2) (.slice a3 H.mourned.length c3) (.slice a4 H.seen.length c4) (2*H.half) (.slice a5 (objsP a1 H).length c5),.bool true])∧OwnP w' V.heap.size (.slice a5 (objsP a1 H).length c5) (objsP a1 H))∧Below V.heap.size V w'):=fun V hV=>openedButSeen_any hV hs hI
 have HII:Hid _:=hI
 have HSZ:Hid (H.seen.length≤1048576):=by unfold hpSize at hs;show _≤_;omega
 clear h hs hI
 go_enter Tryz.func28,Tryz.ntmps28
 go_upto_region 1 with fail
 generalize (w.alloc _).alloc _=X at *
 obtain⟨q0,_,hX,_,_⟩:=HALL.out X (Below.refl _ _)
 obtain⟨z0,z1,z2,z3,z4,z5,z6,z7,z8⟩:=hpb_cells q0
 have OX:=HOB.out X hX
 clear q0 hX HOB
 cases ho:openB a1 H
 ·have HO:Hid (heapOk H=false):=by show _=_;rw[←HOK.out];unfold okB;rw[ho];rfl
  have R0:=OX.mono (fun e w' (hh:_∧_∧_)=>(⟨hh.1 ho,hh.2.2⟩:e = .returned (.tuple #[hov0,.bool false])∧Below X.heap.size X w'))
  clear OX ho HOK
  go_upto_region 2 with (go_at_call 58;refine R0.mono ?_;clear R0 z0 z1 z2 z3 z4 z5 z6 z7 z8;rintro e w1 ⟨rfl,b1⟩;have HB1:Hid _:=b1;clear b1)
  have B2:Below w1.heap.size w1 (w1.alloc (hob hz s0 s0 s0 s0 0 s0)):=(Below.refl _ _).alloc (Nat.le_refl _) _
  have HB2:Hid _:=HB1.out.trans (B2.mono HB1.out.size)
  clear B2
  generalize w1.alloc (hob hz s0 s0 s0 s0 0 s0)=Y at *
  go_quiet (fail)
  have HD:Hid (Below Y.heap.size Y (Y.drewN nq)):=bel_of_drewN ⟨_,rfl⟩
  generalize Y.drewN nq=Y1 at *
  obtain⟨_,q1,_,bw,s3⟩:=HALL.out Y1 (HB2.out.trans (HD.out.mono HB2.out.size))
  obtain⟨⟨g0,g1,g2,g3,g4,g5,g6,g7,g8,g9,g10⟩,f0,f1,f2,f3,f4,f5,f6,f7,f8,f9,f10⟩:=hob_cells q1
  have HQ1:Hid _:=q1
  have HBW:Hid _:=bw
  clear q1 bw
  go_wp2_with fail
  exact bodyPost_ret (res_ho rfl rfl rfl (hob_set HQ1.out hz s0 s0 s0 s0 0 s0)) rfl ⟨fun _=>rfl,fun e=>absurd (HO.out.symm.trans e) (by decide),hob_below HBW.out (by omega) hz s0 s0 s0 s0 0 s0⟩
 have R0:=OX.mono (fun e w' (hh:_∧_∧_)=>(⟨hh.2.1 ho,hh.2.2⟩:(∃a5 c5,e = .returned (.tuple #[hov H (.slice a1 H.row.length c1) (.slice a2 H.roots.length c2) (.slice a3 H.mourned.length c3) (.slice a4 H.seen.length c4) (2*H.half) (.slice a5 (objsP a1 H).length c5),.bool true])∧OwnP w' X.heap.size (.slice a5 (objsP a1 H).length c5) (objsP a1 H))∧Below X.heap.size X w'))
 obtain⟨hn,hr,_⟩:=openB_parts ho
 have HO:Hid (heapOk H=decide (H.seen=mustL (2*H.half) (slP H.row) (objsP a1 H))):=by show _=_;rw[←HOK.out];unfold okB;rw[ho];rfl
 have HRA:Hid (∀V v,HpAt V (.slice a1 H.row.length c1) (.slice a2 H.roots.length c2) (.slice a3 H.mourned.length c3) (.slice a4 H.seen.length c4) H→PdsAt V v (objsP a1 H)→RoomsAt V v (objsP a1 H) (slP H.row)):=fun V v h1 h2=>roomsAt_of h1.1 hn hr HII.out.2.1 h2
 clear OX ho HOK hn hr
 go_upto_region 2 with (go_at_call 58;refine R0.mono ?_;clear R0 z0 z1 z2 z3 z4 z5 z6 z7 z8;rintro e w1 ⟨⟨a5,c5,rfl,O1⟩,b1⟩;have HB1:Hid _:=b1;have HO1:Hid _:=O1;clear b1 O1)
 have B2:Below w1.heap.size w1 (w1.alloc (hob H (.slice a1 H.row.length c1) (.slice a2 H.roots.length c2) (.slice a3 H.mourned.length c3) (.slice a4 H.seen.length c4) (2*H.half) (.slice a5 (objsP a1 H).length c5))):=(Below.refl _ _).alloc (Nat.le_refl _) _
 have HB2:Hid _:=HB1.out.trans (B2.mono HB1.out.size)
 have HQ2:Hid _:=heap_alloc_new w1 (hob H (.slice a1 H.row.length c1) (.slice a2 H.roots.length c2) (.slice a3 H.mourned.length c3) (.slice a4 H.seen.length c4) (2*H.half) (.slice a5 (objsP a1 H).length c5))
 have HO2:Hid _:=ownP_below HO1.out B2
 clear B2 HO1
 generalize w1.alloc (hob H (.slice a1 H.row.length c1) (.slice a2 H.roots.length c2) (.slice a3 H.mourned.length c3) (.slice a4 H.seen.length c4) (2*H.half) (.slice a5 (objsP a1 H).length c5))=Y at *
 generalize w1.heap.size=n1 at *
 have HY:Hid (∀V,Below Y.heap.size Y V→V.heap[n1]? = some (hob H (.slice a1 H.row.length c1) (.slice a2 H.roots.length c2) (.slice a3 H.mourned.length c3) (.slice a4 H.seen.length c4) (2*H.half) (.slice a5 (objsP a1 H).length c5))∧V.heap[w.heap.size+1]? = some (hob hz s0 s0 s0 s0 0 s0)∧HpAt V (.slice a1 H.row.length c1) (.slice a2 H.roots.length c2) (.slice a3 H.mourned.length c3) (.slice a4 H.seen.length c4) H∧RoomsAt V (.slice a5 (objsP a1 H).length c5) (objsP a1 H) (slP H.row)∧OwnP V X.heap.size (.slice a5 (objsP a1 H).length c5) (objsP a1 H)∧Below w.heap.size w V∧w.heap.size+2≤V.heap.size):=by
  intro V hV
  obtain⟨_,k1,k2,k3,k4⟩:=HALL.out V (HB2.out.trans (hV.mono HB2.out.size))
  exact⟨(hV.block _ (lt_of_block HQ2.out)).trans HQ2.out,k1,k2,HRA.out V _ k2 (ownP_at (ownP_below HO2.out hV)),ownP_below HO2.out hV,k3,k4⟩
 have HM:Hid (∀V,Below Y.heap.size Y V→Calls Tryz.prog 60 #[rmv (2*H.half) (.slice a5 (objsP a1 H).length c5)] V fun e w'=>∃u,e = .returned u∧rows.Own w' V.heap.size u (mustL (2*H.half) (slP H.row) (objsP a1 H))∧Below V.heap.size V w'):=fun V hV=>by
  obtain⟨_,_,_,r,_⟩:=HY.out V hV
  exact mustSee_any r.pds r.slices (Nat.le_trans r.len (by decide)) r.slots
 have HE:Hid (∀V u,Below Y.heap.size Y V→IntsAt V u (mustL (2*H.half) (slP H.row) (objsP a1 H))→Calls Tryz.prog 59 #[.slice a4 H.seen.length c4,u] V fun e w'=>e = .returned (.bool (heapOk H))∧Below V.heap.size V w'):=fun V u hV hu=>by
  obtain⟨_,_,k2,r,_⟩:=HY.out V hV
  have:=equal_any k2.2.2.2 hu HSZ.out (Nat.le_trans (mustL_len _ _ _) (Nat.le_trans r.len (by decide)))
  rwa [←HO.out]at this
 have sX2:w.heap.size+2≤X.heap.size:=(HALL.out X (Below.refl _ _)).2.2.2.2
 obtain⟨P,hP⟩:∃P,heapOk H=P:=⟨_,rfl⟩
 simp only[hP]at HE
 have HPP:Hid _:=hP
 clear HO HRA HALL HB1 HB2 HQ2 HO2 HII HSZ hP
 obtain⟨qY,_⟩:=HY.out Y (Below.refl _ _)
 obtain⟨⟨m0,m1,m2,m3,m4,m5,m6,m7,m8,m9,m10⟩,_⟩:=hob_cells qY
 clear qY
 go_cut [22] from 11 to 22 (fun v wz=>v = .bool (!P)∧Hid (Below Y.heap.size Y wz))
 case first=>
  have HG:Hid (∀(V w':World),Below V.heap.size V w'→Below Y.heap.size Y V→w'.heap[n1]? = some (hob H (.slice a1 H.row.length c1) (.slice a2 H.roots.length c2) (.slice a3 H.mourned.length c3) (.slice a4 H.seen.length c4) (2*H.half) (.slice a5 (objsP a1 H).length c5))∧Below Y.heap.size Y w'):=by
   intro V w' h1 h2
   have h3:Below Y.heap.size Y w':=h2.trans (h1.mono h2.size)
   exact⟨(HY.out w' h3).1,h3⟩
  go_region_law (first
   |(go_simp;go_at_call 60;refine Calls.mono (HM.out _ ⟨rfl,rfl,rfl,Nat.le_refl _,fun _ _=>rfl⟩) ?_;rintro e w5 ⟨u5,rfl,o5,b5⟩;obtain⟨q5,x5⟩:=HG.out _ _ b5 ⟨rfl,rfl,rfl,Nat.le_refl _,fun _ _=>rfl⟩;obtain⟨⟨p0,p1,p2,p3,p4,p5,p6,p7,p8,p9,p10⟩,_⟩:=hob_cells q5;have HO5:Hid _:=own_ints o5;obtain⟨ua,uc,hu5,_⟩:=own_ints o5;subst hu5;have HX5:Hid _:=x5;clear HM o5 b5 q5 x5)
   |(go_simp;go_at_call 59;refine Calls.mono (HE.out _ _ ⟨HX5.out.os,HX5.out.tape,HX5.out.output,HX5.out.size,HX5.out.block⟩ HO5.out) ?_;rintro e w6 ⟨rfl,b6⟩;have HX6:Hid (Below Y.heap.size Y w6):=(HG.out w5 w6 ⟨b6.os,b6.tape,b6.output,b6.size,b6.block⟩ HX5.out).2;clear HE b6))
  all_goals (go_wp2_with fail)
  all_goals (go_meet;exact⟨rfl,HX6.out⟩)
 obtain⟨rfl,bc⟩:=hcut
 clear m0 m1 m2 m3 m4 m5 m6 m7 m8 m9 m10 HM HE
 obtain⟨qY,q1,_,_,o7,bw,s7⟩:=HY.out wc bc.out
 obtain⟨⟨g0,g1,g2,g3,g4,g5,g6,g7,g8,g9,g10⟩,f0,f1,f2,f3,f4,f5,f6,f7,f8,f9,f10⟩:=hob_cells q1
 have HQ1:Hid _:=q1
 have HBW:Hid _:=bw
 have HO7:Hid _:=o7
 cases P
 ·clear q1 qY bw o7
  go_wp2_with fail
  exact bodyPost_ret (res_ho rfl rfl rfl (hob_set HQ1.out hz s0 s0 s0 s0 0 s0)) rfl ⟨fun _=>rfl,fun e=>absurd (HPP.out.symm.trans e) (by decide),hob_below HBW.out (by omega) hz s0 s0 s0 s0 0 s0⟩
 ·obtain⟨⟨m0,m1,m2,m3,m4,m5,m6,m7,m8,m9,m10⟩,_⟩:=hob_cells qY
  clear q1 qY bw o7
  go_wp2_with fail
  refine bodyPost_ret (res_ho rfl rfl rfl (hob_set HQ1.out H (.slice a1 H.row.length c1) (.slice a2 H.roots.length c2) (.slice a3 H.mourned.length c3) (.slice a4 H.seen.length c4) (2*H.half) (.slice a5 (objsP a1 H).length c5))) rfl ⟨fun e=>absurd (HPP.out.symm.trans e) (by decide),fun _=>⟨a5,c5,rfl,?_⟩,hob_below HBW.out (by omega) H (.slice a1 H.row.length c1) (.slice a2 H.roots.length c2) (.slice a3 H.mourned.length c3) (.slice a4 H.seen.length c4) (2*H.half) (.slice a5 (objsP a1 H).length c5)⟩
  refine ownP_base (row_ch (S:=[w.heap.size+1]) HO7.out (hob_ch _ _ _ _ _ _ _ _ _) (fun k hk => ?_)) (by omega)
  have:=(blk_lt HO7.out k hk).1
  simp
  omega
end Go.Proofs.YtemlagfaaibenaaGreat.hp
