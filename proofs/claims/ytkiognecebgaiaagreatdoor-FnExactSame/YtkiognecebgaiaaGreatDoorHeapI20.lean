/-
  Chapter 9 as the program has it: a heap gone through, but for what is seen.
  Made from the template HeapI20.
-/
import Derived.Test.YtkiognecebgaiaaGreatDoorM17
namespace Go.Proofs.YtkiognecebgaiaaGreatDoor.hp
open Go.RowKit rows heads words walks
set_option maxRecDepth 100000
set_option linter.unusedVariables false
set_option linter.unusedSimpArgs false
theorem hpX_all {w:World} {vr vo vm vs:Value} {H:Hp} (h:HpAt w vr vo vm vs H):∀V,Below (((w.alloc (hpb H vr vo vm vs)).alloc (hob hz s0 s0 s0 s0 0 s0))).heap.size (((w.alloc (hpb H vr vo vm vs)).alloc (hob hz s0 s0 s0 s0 0 s0))) V→V.heap[w.heap.size]? = some (hpb H vr vo vm vs)∧V.heap[w.heap.size+1]? = some (hob hz s0 s0 s0 s0 0 s0)∧HpAt V vr vo vm vs H∧Below w.heap.size w V∧w.heap.size+2≤V.heap.size:=by
 intro V hV
 have B0:Below w.heap.size w (w.alloc (hpb H vr vo vm vs)):=(Below.refl _ _).alloc (Nat.le_refl _) _
 have B1:=B0.alloc B0.size (hob hz s0 s0 s0 s0 0 s0)
 have T1:=heap_alloc_new (w.alloc (hpb H vr vo vm vs)) (hob hz s0 s0 s0 s0 0 s0)
 have T2:Below (w.heap.size+1) (w.alloc (hpb H vr vo vm vs)) V:=((Below.refl _ _).alloc (by simp) _).trans (hV.mono (by simp))
 have hs:=hV.size
 have q0:V.heap[w.heap.size]? = some (hpb H vr vo vm vs):=(T2.block _ (by omega)).trans (heap_alloc_new w _)
 have q1:V.heap[w.heap.size+1]? = some (hob hz s0 s0 s0 s0 0 s0):=(hV.block (w.heap.size+1) (by simp)).trans ((congrArg (fun k=>(((w.alloc (hpb H vr vo vm vs)).alloc (hob hz s0 s0 s0 s0 0 s0))).heap[k]?) (show w.heap.size+1=(w.alloc (hpb H vr vo vm vs)).heap.size by simp)).trans T1)
 exact⟨q0,q1,hpAt_below h (B1.trans (hV.mono B1.size)),B1.trans (hV.mono B1.size),by simpa using hs⟩
theorem hpb_cells {W:World} {b:Nat} {H:Hp} {vr vo vm vs:Value} (h:W.heap[b]? = some (hpb H vr vo vm vs)):W.cell? ⟨b,0,none⟩=some (.int .i64 H.half)∧W.cell? ⟨b,1,none⟩=some (.int .i64 H.old)∧W.cell? ⟨b,2,none⟩=some vr∧W.cell? ⟨b,3,none⟩=some (.int .i64 H.side)∧W.cell? ⟨b,4,none⟩=some (.int .i64 H.top)∧W.cell? ⟨b,5,none⟩=some vo∧W.cell? ⟨b,6,none⟩=some vm∧W.cell? ⟨b,7,none⟩=some vs∧W.cell? ⟨b,8,none⟩=some (.int .i64 H.seed):=by
 refine⟨?_,?_,?_,?_,?_,?_,?_,?_,?_⟩<;>simp[World.cell?, h]
set_option maxHeartbeats 16000000 in
theorem openedButSeen_any {w:World} {a1 a2 a3 a4:Option Addr} {c1 c2 c3 c4:Nat} {H:Hp} (h:HpAt w (.slice a1 H.row.length c1) (.slice a2 H.roots.length c2) (.slice a3 H.mourned.length c3) (.slice a4 H.seen.length c4) H) (hs:hpSize H≤1048576) (hI:HpI H) :
    Calls Tryz.prog 132 #[hpv H (.slice a1 H.row.length c1) (.slice a2 H.roots.length c2) (.slice a3 H.mourned.length c3) (.slice a4 H.seen.length c4)] w fun e w'=>(openB a1 H=false→e = .returned (.tuple #[hov0,.bool false]))∧(openB a1 H=true→∃a5 c5,e = .returned (.tuple #[hov H (.slice a1 H.row.length c1) (.slice a2 H.roots.length c2) (.slice a3 H.mourned.length c3) (.slice a4 H.seen.length c4) (2*H.half) (.slice a5 (objsP a1 H).length c5),.bool true])∧OwnP w' w.heap.size (.slice a5 (objsP a1 H).length c5) (objsP a1 H))∧Below w.heap.size w w':=by
 have HALL:Hid _:=hpX_all h
 have HNU:Hid (∀V,HpAt V (.slice a1 H.row.length c1) (.slice a2 H.roots.length c2) (.slice a3 H.mourned.length c3) (.slice a4 H.seen.length c4) H→Calls Tryz.prog 150 #[hpv H (.slice a1 H.row.length c1) (.slice a2 H.roots.length c2) (.slice a3 H.mourned.length c3) (.slice a4 H.seen.length c4)] V fun e w'=>e = .returned (.bool (numB H))∧Below V.heap.size V w'):=fun V hV=>numbersOk_any hV
 have HSZ:Hid _:=hs
 have HII:Hid _:=hI
 clear h hs hI
 cases hn:numB H
 ·have HO:Hid (openB a1 H=false):=by show _=_;unfold openB;rw[hn];rfl
  simp only[hn]at HNU
  clear hn
  go_enter Tryz.func132,Tryz.ntmps132
  go_upto_region 1 with fail
  generalize (w.alloc _).alloc _=X at *
  obtain⟨q0,_,hX,_,_⟩:=HALL.out X (Below.refl _ _)
  obtain⟨z0,z1,z2,z3,z4,z5,z6,z7,z8⟩:=hpb_cells q0
  have NU:=HNU.out X hX
  clear q0 hX
  go_wp2_with (go_at_call 150;refine NU.mono ?_;clear NU z0 z1 z2 z3 z4 z5 z6 z7 z8;rintro e w1 ⟨rfl,b1⟩;obtain⟨_,q1,_,bw,s1⟩:=HALL.out w1 b1;obtain⟨⟨g0,g1,g2,g3,g4,g5,g6,g7,g8,g9,g10⟩,f0,f1,f2,f3,f4,f5,f6,f7,f8,f9,f10⟩:=hob_cells q1;have HQ1:Hid _:=q1;have HBW:Hid _:=bw;clear q1 bw b1)
  exact bodyPost_ret (res_ho rfl rfl rfl (hob_set HQ1.out hz s0 s0 s0 s0 0 s0)) rfl ⟨fun _=>rfl,fun e=>absurd (HO.out.symm.trans e) (by decide),hob_below HBW.out (by omega) hz s0 s0 s0 s0 0 s0⟩
 simp only[hn]at HNU
 have HRO:Hid (∀V,HpAt V (.slice a1 H.row.length c1) (.slice a2 H.roots.length c2) (.slice a3 H.mourned.length c3) (.slice a4 H.seen.length c4) H→Calls Tryz.prog 151 #[hpv H (.slice a1 H.row.length c1) (.slice a2 H.roots.length c2) (.slice a3 H.mourned.length c3) (.slice a4 H.seen.length c4)] V fun e w'=>(roomB a1 H=false→e = .returned (.tuple #[.agg #[.int .i64 0,.slice none 0 0],.bool false]))∧(roomB a1 H=true→∃v',e = .returned (.tuple #[.agg #[.int .i64 (2*H.half),v'],.bool true])∧OwnP w' V.heap.size v' (objsP a1 H))∧Below V.heap.size V w'):=fun V hV=>roomsOf_any hV hn HII.out.2.1
 go_enter Tryz.func132,Tryz.ntmps132
 go_upto_region 1 with fail
 generalize (w.alloc _).alloc _=X at *
 obtain⟨q0,_,hX,_,_⟩:=HALL.out X (Below.refl _ _)
 obtain⟨z0,z1,z2,z3,z4,z5,z6,z7,z8⟩:=hpb_cells q0
 have NU:=HNU.out X hX
 clear q0 hX
 go_upto_region 3 with (go_at_call 150;refine NU.mono ?_;clear NU z0 z1 z2 z3 z4 z5 z6 z7 z8;rintro e w1 ⟨rfl,b1⟩;have HB1:Hid _:=b1;clear b1)
 obtain⟨q0,_,h1,_,s1⟩:=HALL.out w1 HB1.out
 obtain⟨z0,z1,z2,z3,z4,z5,z6,z7,z8⟩:=hpb_cells q0
 have RO:=HRO.out w1 h1
 clear q0 h1 HNU HRO
 cases hr:roomB a1 H
 ·have HO:Hid (openB a1 H=false):=by show _=_;unfold openB;rw[hn,hr];rfl
  have R0:=RO.mono (fun e w' (hh:_∧_∧_)=>(⟨hh.1 hr,hh.2.2⟩:e = .returned (.tuple #[.agg #[.int .i64 0,.slice none 0 0],.bool false])∧Below w1.heap.size w1 w'))
  clear RO hr hn
  go_upto_region 4 with (go_at_call 151;refine R0.mono ?_;clear R0 z0 z1 z2 z3 z4 z5 z6 z7 z8;rintro e w2 ⟨rfl,b2⟩;have HB2:Hid _:=b2;clear b2)
  have B3:Below w2.heap.size w2 (w2.alloc (rmb 0 s0)):=(Below.refl _ _).alloc (Nat.le_refl _) _
  have B2:=HB1.out.trans (HB2.out.mono HB1.out.size)
  have HB3:Hid _:=B2.trans (B3.mono B2.size)
  obtain⟨q0,_⟩:=HALL.out _ HB3.out
  obtain⟨z0,z1,z2,z3,z4,z5,z6,z7,z8⟩:=hpb_cells q0
  obtain⟨⟨r0,r1⟩,_⟩:=rmb_cells (heap_alloc_new w2 (rmb 0 s0))
  clear B3 B2 q0
  generalize w2.alloc (rmb 0 s0)=W3 at *
  go_upto_region 5 with fail
  have B4:Below W3.heap.size W3 (W3.alloc (hob H (.slice a1 H.row.length c1) (.slice a2 H.roots.length c2) (.slice a3 H.mourned.length c3) (.slice a4 H.seen.length c4) 0 s0)):=(Below.refl _ _).alloc (Nat.le_refl _) _
  obtain⟨_,q1,_,bw,s3⟩:=HALL.out _ (HB3.out.trans (B4.mono HB3.out.size))
  obtain⟨⟨g0,g1,g2,g3,g4,g5,g6,g7,g8,g9,g10⟩,f0,f1,f2,f3,f4,f5,f6,f7,f8,f9,f10⟩:=hob_cells q1
  have HQ1:Hid _:=q1
  have HBW:Hid _:=bw
  clear q1 bw B4 z0 z1 z2 z3 z4 z5 z6 z7 z8 r0 r1
  generalize W3.alloc (hob H (.slice a1 H.row.length c1) (.slice a2 H.roots.length c2) (.slice a3 H.mourned.length c3) (.slice a4 H.seen.length c4) 0 s0)=Y at *
  go_wp2_with fail
  exact bodyPost_ret (res_ho rfl rfl rfl (hob_set HQ1.out hz s0 s0 s0 s0 0 s0)) rfl ⟨fun _=>rfl,fun e=>absurd (HO.out.symm.trans e) (by decide),hob_below HBW.out (by omega) hz s0 s0 s0 s0 0 s0⟩
 have R0:=RO.mono (fun e w' (hh:_∧_∧_)=>(⟨hh.2.1 hr,hh.2.2⟩:(∃v',e = .returned (.tuple #[.agg #[.int .i64 (2*H.half),v'],.bool true])∧OwnP w' w1.heap.size v' (objsP a1 H))∧Below w1.heap.size w1 w'))
 clear RO
 have HO:Hid (openB a1 H=(holdS (objsP a1 H) (slP H.row)&&endsOk H ((objsP a1 H).map (·.pl))&&lstB H (objsP a1 H))):=by show _=_;unfold openB;rw[hn,hr,Bool.true_and,Bool.true_and]
 have HNR:Hid (numB H=true∧roomB a1 H=true):=⟨hn,hr⟩
 have HRA:Hid (∀V v,HpAt V (.slice a1 H.row.length c1) (.slice a2 H.roots.length c2) (.slice a3 H.mourned.length c3) (.slice a4 H.seen.length c4) H→PdsAt V v (objsP a1 H)→RoomsAt V v (objsP a1 H) (slP H.row)):=fun V v h1 h2=>roomsAt_of h1.1 hn hr HII.out.2.1 h2
 have HNT:Hid (holdS (objsP a1 H) (slP H.row)=true→NoteP (objsP a1 H) (slP H.row) (ntH H) (nxH H)):=fun hS=>noteP_of hn hr hS
 have HEN:Hid (holdS (objsP a1 H) (slP H.row)=true→(endsOk H ((objsP a1 H).map (·.pl))=true↔∀i,i<(objsP a1 H).length→Fins (ntH H) (nxH H) ((objsP a1 H).getD i pdD).pl)):=fun hS=>ends_iff hr hS
 clear hn hr
 go_upto_region 4 with (go_at_call 151;refine R0.mono ?_;clear R0 z0 z1 z2 z3 z4 z5 z6 z7 z8;rintro e w2 ⟨⟨v2,rfl,O2⟩,b2⟩;have HB2:Hid _:=b2;have HO2:Hid _:=O2;obtain⟨a5,c5,rfl⟩:=pds_slice (ownP_at O2);clear b2 O2)
 have B3:Below w2.heap.size w2 (w2.alloc (rmb (2*H.half) (.slice a5 (objsP a1 H).length c5))):=(Below.refl _ _).alloc (Nat.le_refl _) _
 have B2:=HB1.out.trans (HB2.out.mono HB1.out.size)
 have HBa:Hid _:=B2.trans (B3.mono B2.size)
 have HOa:Hid _:=ownP_below HO2.out B3
 obtain⟨q0,_⟩:=HALL.out _ HBa.out
 obtain⟨z0,z1,z2,z3,z4,z5,z6,z7,z8⟩:=hpb_cells q0
 obtain⟨⟨r0,r1⟩,_⟩:=rmb_cells (heap_alloc_new w2 (rmb (2*H.half) (.slice a5 (objsP a1 H).length c5)))
 clear B3 B2 q0 HO2 HB2
 generalize w2.alloc (rmb (2*H.half) (.slice a5 (objsP a1 H).length c5))=W3 at *
 go_upto_region 5 with fail
 have B4:Below W3.heap.size W3 (W3.alloc (hob H (.slice a1 H.row.length c1) (.slice a2 H.roots.length c2) (.slice a3 H.mourned.length c3) (.slice a4 H.seen.length c4) (2*H.half) (.slice a5 (objsP a1 H).length c5))):=(Below.refl _ _).alloc (Nat.le_refl _) _
 have HB3:Hid (Below X.heap.size X (W3.alloc (hob H (.slice a1 H.row.length c1) (.slice a2 H.roots.length c2) (.slice a3 H.mourned.length c3) (.slice a4 H.seen.length c4) (2*H.half) (.slice a5 (objsP a1 H).length c5)))):=HBa.out.trans (B4.mono HBa.out.size)
 have HQ3:Hid _:=heap_alloc_new W3 (hob H (.slice a1 H.row.length c1) (.slice a2 H.roots.length c2) (.slice a3 H.mourned.length c3) (.slice a4 H.seen.length c4) (2*H.half) (.slice a5 (objsP a1 H).length c5))
 have HO3:Hid _:=ownP_below HOa.out B4
 clear B4 z0 z1 z2 z3 z4 z5 z6 z7 z8 r0 r1 HOa HBa
 generalize W3.alloc (hob H (.slice a1 H.row.length c1) (.slice a2 H.roots.length c2) (.slice a3 H.mourned.length c3) (.slice a4 H.seen.length c4) (2*H.half) (.slice a5 (objsP a1 H).length c5))=Y at *
 generalize W3.heap.size=n3 at *
 have HY:Hid (∀V,Below Y.heap.size Y V→V.heap[n3]? = some (hob H (.slice a1 H.row.length c1) (.slice a2 H.roots.length c2) (.slice a3 H.mourned.length c3) (.slice a4 H.seen.length c4) (2*H.half) (.slice a5 (objsP a1 H).length c5))∧V.heap[w.heap.size+1]? = some (hob hz s0 s0 s0 s0 0 s0)∧HpAt V (.slice a1 H.row.length c1) (.slice a2 H.roots.length c2) (.slice a3 H.mourned.length c3) (.slice a4 H.seen.length c4) H∧RoomsAt V (.slice a5 (objsP a1 H).length c5) (objsP a1 H) (slP H.row)∧OwnP V w1.heap.size (.slice a5 (objsP a1 H).length c5) (objsP a1 H)∧Below w.heap.size w V∧w.heap.size+2≤V.heap.size):=by
  intro V hV
  obtain⟨_,k1,k2,k3,k4⟩:=HALL.out V (HB3.out.trans (hV.mono HB3.out.size))
  exact⟨(hV.block _ (lt_of_block HQ3.out)).trans HQ3.out,k1,k2,HRA.out V _ k2 (ownP_at (ownP_below HO3.out hV)),ownP_below HO3.out hV,k3,k4⟩
 have HS1:Hid (∀V,RoomsAt V (.slice a5 (objsP a1 H).length c5) (objsP a1 H) (slP H.row)→Calls Tryz.prog 152 #[rmv (2*H.half) (.slice a5 (objsP a1 H).length c5)] V fun e w'=>e = .returned (.bool (holdS (objsP a1 H) (slP H.row)))∧Below V.heap.size V w'):=fun V r=>holdsSlots_any r.pds r.slices r.rise (Nat.le_trans r.len (by decide)) r.slots
 have HS2:Hid (holdS (objsP a1 H) (slP H.row)=true→∀V,RoomsAt V (.slice a5 (objsP a1 H).length c5) (objsP a1 H) (slP H.row)→Calls Tryz.prog 153 #[rmv (2*H.half) (.slice a5 (objsP a1 H).length c5)] V fun e w'=>e = .returned (.bool (endsOk H ((objsP a1 H).map (·.pl))))∧Below V.heap.size V w'):=fun hS V r=>notesEnd_any r.pds r.slices r.rise (Nat.le_trans r.len (by decide)) r.slots (HNT.out hS) (HEN.out hS)
 have HS3:Hid (∀V,HpAt V (.slice a1 H.row.length c1) (.slice a2 H.roots.length c2) (.slice a3 H.mourned.length c3) (.slice a4 H.seen.length c4) H→RoomsAt V (.slice a5 (objsP a1 H).length c5) (objsP a1 H) (slP H.row)→Calls Tryz.prog 154 #[hov H (.slice a1 H.row.length c1) (.slice a2 H.roots.length c2) (.slice a3 H.mourned.length c3) (.slice a4 H.seen.length c4) (2*H.half) (.slice a5 (objsP a1 H).length c5)] V fun e w'=>e = .returned (.bool (lstB H (objsP a1 H)))∧Below V.heap.size V w'):=fun V h1 r=>listsOk_any h1 HSZ.out HII.out.2.2.1 HII.out.2.2.2.1 r
 obtain⟨P1,hP1⟩:∃P,holdS (objsP a1 H) (slP H.row)=P:=⟨_,rfl⟩
 obtain⟨P2,hP2⟩:∃P,endsOk H ((objsP a1 H).map (·.pl))=P:=⟨_,rfl⟩
 obtain⟨P3,hP3⟩:∃P,lstB H (objsP a1 H)=P:=⟨_,rfl⟩
 rw[hP1,hP2,hP3]at HO
 simp only[hP1]at HS1 HS2
 simp only[hP2]at HS2
 simp only[hP3]at HS3
 clear hP1 hP2 hP3 HNT HEN HRA HALL HB1 HB3 HQ3 HO3 HNR HSZ HII
 obtain⟨qY,_,hY,rY,_,_,_⟩:=HY.out Y (Below.refl _ _)
 obtain⟨⟨m0,m1,m2,m3,m4,m5,m6,m7,m8,m9,m10⟩,_⟩:=hob_cells qY
 have C1:=HS1.out Y rY
 clear qY hY rY HS1
 cases P1
 ·rw[Bool.false_and,Bool.false_and]at HO
  clear HS2 HS3
  go_wp2_with (go_at_call 152;refine C1.mono ?_;clear C1 m0 m1 m2 m3 m4 m5 m6 m7 m8 m9 m10;rintro e w5 ⟨rfl,b5⟩;obtain⟨_,q1,_,_,_,bw,s5⟩:=HY.out w5 b5;obtain⟨⟨g0,g1,g2,g3,g4,g5,g6,g7,g8,g9,g10⟩,f0,f1,f2,f3,f4,f5,f6,f7,f8,f9,f10⟩:=hob_cells q1;have HQ1:Hid _:=q1;have HBW:Hid _:=bw;clear q1 bw b5)
  exact bodyPost_ret (res_ho rfl rfl rfl (hob_set HQ1.out hz s0 s0 s0 s0 0 s0)) rfl ⟨fun _=>rfl,fun e=>absurd (HO.out.symm.trans e) (by decide),hob_below HBW.out (by omega) hz s0 s0 s0 s0 0 s0⟩
 rw[Bool.true_and]at HO
 cases P2
 ·rw[Bool.false_and]at HO
  clear HS3
  go_wp2_with (first
   |(go_at_call 152;refine C1.mono ?_;clear C1 m0 m1 m2 m3 m4 m5 m6 m7 m8 m9 m10;rintro e w5 ⟨rfl,b5⟩;obtain⟨qY,_,_,rY,_⟩:=HY.out w5 b5;obtain⟨⟨m0,m1,m2,m3,m4,m5,m6,m7,m8,m9,m10⟩,_⟩:=hob_cells qY;have C2:=HS2.out (by trivial) w5 rY;have HB5:Hid _:=b5;clear b5 qY rY HS2)
   |(go_at_call 153;refine C2.mono ?_;clear C2 m0 m1 m2 m3 m4 m5 m6 m7 m8 m9 m10;rintro e w6 ⟨rfl,b6⟩;obtain⟨_,q1,_,_,_,bw,s6⟩:=HY.out w6 (HB5.out.trans (b6.mono HB5.out.size));obtain⟨⟨g0,g1,g2,g3,g4,g5,g6,g7,g8,g9,g10⟩,f0,f1,f2,f3,f4,f5,f6,f7,f8,f9,f10⟩:=hob_cells q1;have HQ1:Hid _:=q1;have HBW:Hid _:=bw;clear q1 bw b6))
  exact bodyPost_ret (res_ho rfl rfl rfl (hob_set HQ1.out hz s0 s0 s0 s0 0 s0)) rfl ⟨fun _=>rfl,fun e=>absurd (HO.out.symm.trans e) (by decide),hob_below HBW.out (by omega) hz s0 s0 s0 s0 0 s0⟩
 rw[Bool.true_and]at HO
 cases P3
 ·go_wp2_with (first
    |(go_at_call 152;refine C1.mono ?_;clear C1 m0 m1 m2 m3 m4 m5 m6 m7 m8 m9 m10;rintro e w5 ⟨rfl,b5⟩;obtain⟨qY,_,_,rY,_⟩:=HY.out w5 b5;obtain⟨⟨m0,m1,m2,m3,m4,m5,m6,m7,m8,m9,m10⟩,_⟩:=hob_cells qY;have C2:=HS2.out (by trivial) w5 rY;have HB5:Hid _:=b5;clear b5 qY rY HS2)
    |(go_at_call 153;refine C2.mono ?_;clear C2 m0 m1 m2 m3 m4 m5 m6 m7 m8 m9 m10;rintro e w6 ⟨rfl,b6⟩;have HB6:Hid _:=HB5.out.trans (b6.mono HB5.out.size);obtain⟨qY,_,hY,rY,_⟩:=HY.out w6 HB6.out;obtain⟨⟨m0,m1,m2,m3,m4,m5,m6,m7,m8,m9,m10⟩,_⟩:=hob_cells qY;have C3:=HS3.out w6 hY rY;clear b6 qY hY rY HS3)
    |(go_at_call 154;refine C3.mono ?_;clear C3 m0 m1 m2 m3 m4 m5 m6 m7 m8 m9 m10;rintro e w7 ⟨rfl,b7⟩;obtain⟨_,q1,_,_,_,bw,s7⟩:=HY.out w7 (HB6.out.trans (b7.mono HB6.out.size));obtain⟨⟨g0,g1,g2,g3,g4,g5,g6,g7,g8,g9,g10⟩,f0,f1,f2,f3,f4,f5,f6,f7,f8,f9,f10⟩:=hob_cells q1;have HQ1:Hid _:=q1;have HBW:Hid _:=bw;clear q1 bw b7))
  exact bodyPost_ret (res_ho rfl rfl rfl (hob_set HQ1.out hz s0 s0 s0 s0 0 s0)) rfl ⟨fun _=>rfl,fun e=>absurd (HO.out.symm.trans e) (by decide),hob_below HBW.out (by omega) hz s0 s0 s0 s0 0 s0⟩
 go_wp2_with (first
  |(go_at_call 152;refine C1.mono ?_;clear C1 m0 m1 m2 m3 m4 m5 m6 m7 m8 m9 m10;rintro e w5 ⟨rfl,b5⟩;obtain⟨qY,_,_,rY,_⟩:=HY.out w5 b5;obtain⟨⟨m0,m1,m2,m3,m4,m5,m6,m7,m8,m9,m10⟩,_⟩:=hob_cells qY;have C2:=HS2.out (by trivial) w5 rY;have HB5:Hid _:=b5;clear b5 qY rY HS2)
  |(go_at_call 153;refine C2.mono ?_;clear C2 m0 m1 m2 m3 m4 m5 m6 m7 m8 m9 m10;rintro e w6 ⟨rfl,b6⟩;have HB6:Hid _:=HB5.out.trans (b6.mono HB5.out.size);obtain⟨qY,_,hY,rY,_⟩:=HY.out w6 HB6.out;obtain⟨⟨m0,m1,m2,m3,m4,m5,m6,m7,m8,m9,m10⟩,_⟩:=hob_cells qY;have C3:=HS3.out w6 hY rY;clear b6 qY hY rY HS3)
  |(go_at_call 154;refine C3.mono ?_;clear C3 m0 m1 m2 m3 m4 m5 m6 m7 m8 m9 m10;rintro e w7 ⟨rfl,b7⟩;obtain⟨qY,q1,_,_,o7,bw,s7⟩:=HY.out w7 (HB6.out.trans (b7.mono HB6.out.size));obtain⟨⟨g0,g1,g2,g3,g4,g5,g6,g7,g8,g9,g10⟩,f0,f1,f2,f3,f4,f5,f6,f7,f8,f9,f10⟩:=hob_cells q1;obtain⟨⟨m0,m1,m2,m3,m4,m5,m6,m7,m8,m9,m10⟩,_⟩:=hob_cells qY;have HQ1:Hid _:=q1;have HBW:Hid _:=bw;have HO7:Hid _:=o7;clear q1 qY bw b7 o7))
 refine bodyPost_ret (res_ho rfl rfl rfl (hob_set HQ1.out H (.slice a1 H.row.length c1) (.slice a2 H.roots.length c2) (.slice a3 H.mourned.length c3) (.slice a4 H.seen.length c4) (2*H.half) (.slice a5 (objsP a1 H).length c5))) rfl ⟨fun e=>absurd (HO.out.symm.trans e) (by decide),fun _=>⟨a5,c5,rfl,?_⟩,hob_below HBW.out (by omega) H (.slice a1 H.row.length c1) (.slice a2 H.roots.length c2) (.slice a3 H.mourned.length c3) (.slice a4 H.seen.length c4) (2*H.half) (.slice a5 (objsP a1 H).length c5)⟩
 refine ownP_base (row_ch (S:=[w.heap.size+1]) HO7.out (hob_ch _ _ _ _ _ _ _ _ _) (fun k hk => ?_)) (by omega)
 have:=(blk_lt HO7.out k hk).1
 simp
 omega
end Go.Proofs.YtkiognecebgaiaaGreatDoor.hp
