/-
  Chapter 18 as the program has it: become with Replaced's change.
  Made from the template RepI5.
-/
import Derived.Test.YtemlagfaaibenaaGreatM26
import Derived.Test.YtemlagfaaibenaaGreatM25
namespace Go.Proofs.YtemlagfaaibenaaGreat.hp
open Go.RowKit rows heads words walks region
set_option maxRecDepth 100000
set_option linter.unusedVariables false
set_option linter.unusedSimpArgs false
def dBb (k:Nat):Nat:=24+k
theorem dBb_inj:∀k,k<5→∀j,j<5→dBb j=dBb k→j=k:=fun k _ j _ e=>by unfold dBb at e;omega
def DBb (s:Nat):Bool:=(decide (24≤s)&&decide (s≤28)) || s==12
def FBb (H:Hp) (a1 a2 a3 a4 a5:Option Addr) (c1 c2 c3 c4 c5 nV:Nat) (k:Nat) (t:Value) (W:World):Prop:=
 match k with
 |0=>t=hov H (.slice a1 H.row.length c1) (.slice a2 H.roots.length c2) (.slice a3 H.mourned.length c3) (.slice a4 H.seen.length c4) (2*H.half) (.slice a5 (objsP a1 H).length c5)
 |1=>t=hpv H (.slice a1 H.row.length c1) (.slice a2 H.roots.length c2) (.slice a3 H.mourned.length c3) (.slice a4 H.seen.length c4)
 |2=>∃g1 g2 g3 g4,t=hpv H (.slice (some ⟨g1,0,none⟩) H.row.length H.row.length) (.slice (some ⟨g2,0,none⟩) H.roots.length H.roots.length) (.slice (some ⟨g3,0,none⟩) H.mourned.length H.mourned.length) (.slice (some ⟨g4,0,none⟩) H.seen.length H.seen.length)∧OwnH W nV (.slice (some ⟨g1,0,none⟩) H.row.length H.row.length) (.slice (some ⟨g2,0,none⟩) H.roots.length H.roots.length) (.slice (some ⟨g3,0,none⟩) H.mourned.length H.mourned.length) (.slice (some ⟨g4,0,none⟩) H.seen.length H.seen.length) H
 |3=>∃g1 g2 g3 g4,t = .agg #[.int .i64 H.half,.int .i64 H.old,(.slice a1 H.row.length c1),.int .i64 H.side,.int .i64 H.top,(.slice a2 H.roots.length c2),(.slice a3 H.mourned.length c3),(.slice a4 H.seen.length c4),.int .i64 H.seed,.int .i64 (2*H.half),.slice a5 (objsP a1 H).length c5,.int .i64 H.half,.int .i64 H.old,(.slice (some ⟨g1,0,none⟩) H.row.length H.row.length),.int .i64 H.side,.int .i64 H.top,(.slice (some ⟨g2,0,none⟩) H.roots.length H.roots.length),(.slice (some ⟨g3,0,none⟩) H.mourned.length H.mourned.length),(.slice (some ⟨g4,0,none⟩) H.seen.length H.seen.length),.int .i64 H.seed]∧OwnH W nV (.slice (some ⟨g1,0,none⟩) H.row.length H.row.length) (.slice (some ⟨g2,0,none⟩) H.roots.length H.roots.length) (.slice (some ⟨g3,0,none⟩) H.mourned.length H.mourned.length) (.slice (some ⟨g4,0,none⟩) H.seen.length H.seen.length) H
 |4=>∃g1 g2 g3 g4 B,t = .pointer (some ⟨B,0,none⟩)∧W.heap[B]? = some (becb H (.slice a1 H.row.length c1) (.slice a2 H.roots.length c2) (.slice a3 H.mourned.length c3) (.slice a4 H.seen.length c4) (2*H.half) (.slice a5 (objsP a1 H).length c5) H (.slice (some ⟨g1,0,none⟩) H.row.length H.row.length) (.slice (some ⟨g2,0,none⟩) H.roots.length H.roots.length) (.slice (some ⟨g3,0,none⟩) H.mourned.length H.mourned.length) (.slice (some ⟨g4,0,none⟩) H.seen.length H.seen.length))∧OwnH W nV (.slice (some ⟨g1,0,none⟩) H.row.length H.row.length) (.slice (some ⟨g2,0,none⟩) H.roots.length H.roots.length) (.slice (some ⟨g3,0,none⟩) H.mourned.length H.mourned.length) (.slice (some ⟨g4,0,none⟩) H.seen.length H.seen.length) H∧nV≤B
 |_=>False
theorem own0R (w:World) (b:Nat):OwnH w b (.slice none 0 0) (.slice none 0 0) (.slice none 0 0) (.slice none 0 0) hp0:=
 ⟨⟨World.ownsRow_nil _ _ _ _,World.ownsRow_nil _ _ _ _,World.ownsRow_nil _ _ _ _,World.ownsRow_nil _ _ _ _⟩,by simp[hblk,blk,Value.ownBlock]⟩
set_option maxHeartbeats 16000000 in
theorem becomeRep_any {w:World} {a1 a2 a3 a4:Option Addr} {c1 c2 c3 c4:Nat} {H:Hp} (h:HpAt w (.slice a1 H.row.length c1) (.slice a2 H.roots.length c2) (.slice a3 H.mourned.length c3) (.slice a4 H.seen.length c4) H) (hs:hpSize H≤1048576) (hI:HpI H) (a b:Int) :
    Calls Tryz.prog 39 #[hpv H (.slice a1 H.row.length c1) (.slice a2 H.roots.length c2) (.slice a3 H.mourned.length c3) (.slice a4 H.seen.length c4),.int .i64 a,.int .i64 b,.func (.func 40) #[] #[]] w (BecR w (repA H a b) (repC H a b)):=by
 have hmf:∀(fn:Fn) (first cap:Array Value) (w:World),(Instr.makeFunc fn first cap).run Tryz.prog w = .ok (.func fn first cap) w:=fun _ _ _ _=>rfl
 obtain⟨n0,hn0⟩:∃n0,w.heap.size=n0:=⟨_,rfl⟩
 have B0:Below w.heap.size w (w.alloc (hpb H (.slice a1 H.row.length c1) (.slice a2 H.roots.length c2) (.slice a3 H.mourned.length c3) (.slice a4 H.seen.length c4))):=(Below.refl _ _).alloc (Nat.le_refl _) _
 have B1:=B0.alloc B0.size (hpb ⟨0,0,[],0,0,[],[],[],0⟩ (.slice none 0 0) (.slice none 0 0) (.slice none 0 0) (.slice none 0 0))
 have B2:=B1.alloc B1.size (.cells #[.int .i64 0] 2)
 have HOP:=opened_any (hpAt_below h B2) hs hI
 unfold OpenR at HOP
 have T0:=(((Below.refl (n0+1) (w.alloc (hpb H (.slice a1 H.row.length c1) (.slice a2 H.roots.length c2) (.slice a3 H.mourned.length c3) (.slice a4 H.seen.length c4)))).alloc (by simp[hn0]) (hpb ⟨0,0,[],0,0,[],[],[],0⟩ (.slice none 0 0) (.slice none 0 0) (.slice none 0 0) (.slice none 0 0))).alloc (by simp[hn0]) (.cells #[.int .i64 0] 2)).block n0 (by omega)
 rw[←hn0,heap_alloc_new w _,hn0]at T0
 have T1:=((Below.refl (n0+2) ((w.alloc (hpb H (.slice a1 H.row.length c1) (.slice a2 H.roots.length c2) (.slice a3 H.mourned.length c3) (.slice a4 H.seen.length c4))).alloc (hpb ⟨0,0,[],0,0,[],[],[],0⟩ (.slice none 0 0) (.slice none 0 0) (.slice none 0 0) (.slice none 0 0)))).alloc (by simp[hn0]) (.cells #[.int .i64 0] 2)).block (n0+1) (by omega)
 have T1a:=heap_alloc_new (w.alloc (hpb H (.slice a1 H.row.length c1) (.slice a2 H.roots.length c2) (.slice a3 H.mourned.length c3) (.slice a4 H.seen.length c4))) (hpb ⟨0,0,[],0,0,[],[],[],0⟩ (.slice none 0 0) (.slice none 0 0) (.slice none 0 0) (.slice none 0 0))
 rw[show (w.alloc (hpb H (.slice a1 H.row.length c1) (.slice a2 H.roots.length c2) (.slice a3 H.mourned.length c3) (.slice a4 H.seen.length c4))).heap.size=n0+1 by simp[hn0]]at T1a
 have T1b:=T1.trans T1a
 have T2:=heap_alloc_new ((w.alloc (hpb H (.slice a1 H.row.length c1) (.slice a2 H.roots.length c2) (.slice a3 H.mourned.length c3) (.slice a4 H.seen.length c4))).alloc (hpb ⟨0,0,[],0,0,[],[],[],0⟩ (.slice none 0 0) (.slice none 0 0) (.slice none 0 0) (.slice none 0 0))) (.cells #[.int .i64 0] 2)
 rw[show ((w.alloc (hpb H (.slice a1 H.row.length c1) (.slice a2 H.roots.length c2) (.slice a3 H.mourned.length c3) (.slice a4 H.seen.length c4))).alloc (hpb ⟨0,0,[],0,0,[],[],[],0⟩ (.slice none 0 0) (.slice none 0 0) (.slice none 0 0) (.slice none 0 0))).heap.size=n0+1+1 by simp[hn0]]at T2
 have hsz:(((w.alloc (hpb H (.slice a1 H.row.length c1) (.slice a2 H.roots.length c2) (.slice a3 H.mourned.length c3) (.slice a4 H.seen.length c4))).alloc (hpb ⟨0,0,[],0,0,[],[],[],0⟩ (.slice none 0 0) (.slice none 0 0) (.slice none 0 0) (.slice none 0 0))).alloc (.cells #[.int .i64 0] 2)).heap.size=n0+3:=by simp[hn0]
 have HH:Hid _:=h
 have HS:Hid _:=hs
 have HII:Hid _:=hI
 clear h hs hI B0 B1 T1 T1a
 go_enter_defers Tryz.func39,Tryz.ntmps39
 go_upto_region 1 with fail
 generalize hV:((w.alloc (Obj.cells _ _)).alloc (Obj.cells _ _)).alloc (Obj.cells _ _)=V0
 have hV0:((w.alloc (hpb H (.slice a1 H.row.length c1) (.slice a2 H.roots.length c2) (.slice a3 H.mourned.length c3) (.slice a4 H.seen.length c4))).alloc (hpb ⟨0,0,[],0,0,[],[],[],0⟩ (.slice none 0 0) (.slice none 0 0) (.slice none 0 0) (.slice none 0 0))).alloc (.cells #[.int .i64 0] 2)=V0:=hV
 rw[hV0]at HOP T0 T1b T2 B2 hsz
 clear hV hV0
 have hP89:n0+1≠n0+1+1:=by omega
 have hL8:n0≤n0+1:=by omega
 have hL9:n0≤n0+1+1:=by omega
 have hZ8:n0+1<V0.heap.size:=by omega
 have hZ9:n0+1+1<V0.heap.size:=by omega
 generalize n0+1+1=P9 at *
 generalize n0+1=P8 at *
 clear hsz
 obtain⟨z0,z1,z2,z3,z4,z5,z6,z7,z8⟩:=hpb_cells T0
 have HT0:Hid _:=T0
 have HT8:Hid _:=T1b
 have HT9:Hid _:=T2
 have HB2:Hid _:=B2
 clear T0 T1b T2 B2
 cases dr:heapOk H
 ·have HO0:=HOP.mono (fun e w' g=>(⟨g.1 dr,g.2.2⟩:e = .returned (.tuple #[hov0,.bool false])∧Below V0.heap.size V0 w'))
  have HDR:Hid _:=dr
  clear HOP dr
  go_upto_region 2 with (go_at_call 28;refine HO0.mono ?_;clear HO0 z0 z1 z2 z3 z4 z5 z6 z7 z8;rintro e w1 ⟨rfl,b1⟩;have HB1:Hid _:=b1;clear b1)
  have B3:Below V0.heap.size V0 (w1.alloc (hob hz s0 s0 s0 s0 0 s0)):=HB1.out.alloc HB1.out.size (hob hz s0 s0 s0 s0 0 s0)
  generalize w1.alloc (hob hz s0 s0 s0 s0 0 s0)=Y at *
  have HN8:Hid _:=(B3.block P8 hZ8).trans HT8.out
  have HN9:Hid _:=(B3.block P9 hZ9).trans HT9.out
  have HBY:Hid _:=HB2.out.trans (B3.mono HB2.out.size)
  obtain⟨y0,y1,y2,y3,y4,y5,y6,y7,y8⟩:=hpb_cells HN8.out
  obtain⟨f0,f1,f2,f3,f4,f5,f6,f7,f8⟩:=hpb_froz HN8.out
  have y9:Y.cell? ⟨P9,0,none⟩=some (.int .i64 0):=by simp[World.cell?, HN9.out]
  have f9:Y.frozen? ⟨P9,0,none⟩=false:=by simp[World.frozen?, HN9.out]
  have hne5:¬P8=P9:=hP89
  have hne6:¬P9=P8:=fun e=>hP89 e.symm
  have hl9:=lt_of_block HN9.out
  clear B3 HB1 HB2
  go_wp2_with fail
  have N8:=nine_sets HN8.out (.int .i64 0) (.int .i64 0) s0 (.int .i64 0) (.int .i64 0) s0 s0 s0 (.int .i64 0)
  replace N8:_=some (hpb hp0 s0 s0 s0 s0):=N8
  have C8:=nine_sets_ch Y P8 (.int .i64 0) (.int .i64 0) s0 (.int .i64 0) (.int .i64 0) s0 s0 s0 (.int .i64 0)
  generalize (World.setCell (World.setCell (World.setCell (World.setCell (World.setCell (World.setCell (World.setCell (World.setCell (World.setCell Y _ _) _ _) _ _) _ _) _ _) _ _) _ _) _ _) _ _)=V8 at *
  have C9:Ch [P8,P9] Y (V8.setCell ⟨P9,0,none⟩ (.int .i64 1)):=(C8.mono (by simp)).trans ((one_ch V8 P9 0 _).mono (by simp))
  have eC:repC H a b=1:=by unfold repC rootOk;rw[HDR.out];rfl
  have eA:repA H a b=hp0:=by unfold repA;rw[if_neg (by rw[HDR.out];decide)]
  rw[eC,eA]
  refine⟨_,res_hc rfl rfl rfl ((Below.heap_setCell V8 _ _ P8 hne5).trans N8) ((cells_setCell ((C8.block P9 hl9 (by simp;exact hne6)).trans HN9.out) 0 _).trans rfl),_,_,_,_,rfl,own0R _ _,HBY.out.trans (below_ch C9 HBY.out.size (fun k hk => ?_))⟩
  simp at hk
  rw[hn0]
  rcases hk with rfl|rfl
  ·exact hL8
  ·exact hL9
 ·have HO1:=HOP.mono (fun e w' g=>(⟨g.2.1 dr,g.2.2⟩:(∃a5 c5,e = .returned (.tuple #[hov H (.slice a1 H.row.length c1) (.slice a2 H.roots.length c2) (.slice a3 H.mourned.length c3) (.slice a4 H.seen.length c4) (2*H.half) (.slice a5 (objsP a1 H).length c5),.bool true])∧OwnP w' V0.heap.size (.slice a5 (objsP a1 H).length c5) (objsP a1 H))∧Below V0.heap.size V0 w'))
  have HDR:Hid _:=dr
  clear HOP dr
  go_upto_region 2 with (go_at_call 28;refine HO1.mono ?_;clear HO1 z0 z1 z2 z3 z4 z5 z6 z7 z8;rintro e w1 ⟨⟨a5,c5,rfl,O1⟩,b1⟩;have HB1:Hid _:=b1;have HO5:Hid _:=O1;clear b1 O1)
  have B3:Below V0.heap.size V0 (w1.alloc (hob H (.slice a1 H.row.length c1) (.slice a2 H.roots.length c2) (.slice a3 H.mourned.length c3) (.slice a4 H.seen.length c4) (2*H.half) (.slice a5 (objsP a1 H).length c5))):=HB1.out.alloc HB1.out.size _
  have B4:Below w1.heap.size w1 (w1.alloc (hob H (.slice a1 H.row.length c1) (.slice a2 H.roots.length c2) (.slice a3 H.mourned.length c3) (.slice a4 H.seen.length c4) (2*H.half) (.slice a5 (objsP a1 H).length c5))):=(Below.refl _ _).alloc (Nat.le_refl _) _
  have HP5:Hid _:=pdsAt_below (ownP_at HO5.out) B4
  have HTT:Hid _:=heap_alloc_new w1 (hob H (.slice a1 H.row.length c1) (.slice a2 H.roots.length c2) (.slice a3 H.mourned.length c3) (.slice a4 H.seen.length c4) (2*H.half) (.slice a5 (objsP a1 H).length c5))
  have hs1:=HB1.out.size
  obtain⟨nT,hnT⟩:∃nT,w1.heap.size=nT:=⟨_,rfl⟩
  rw[hnT]at HTT ⊢
  have hlT:nT<(w1.alloc (hob H (.slice a1 H.row.length c1) (.slice a2 H.roots.length c2) (.slice a3 H.mourned.length c3) (.slice a4 H.seen.length c4) (2*H.half) (.slice a5 (objsP a1 H).length c5))).heap.size:=by simp;omega
  generalize w1.alloc (hob H (.slice a1 H.row.length c1) (.slice a2 H.roots.length c2) (.slice a3 H.mourned.length c3) (.slice a4 H.seen.length c4) (2*H.half) (.slice a5 (objsP a1 H).length c5))=V1 at *
  have HB3:Hid _:=B3
  have HN4:Hid _:=(B3.block n0 (lt_of_block HT0.out)).trans HT0.out
  have HN8:Hid _:=(B3.block P8 hZ8).trans HT8.out
  have HN9:Hid _:=(B3.block P9 hZ9).trans HT9.out
  have HBV:Hid _:=HB2.out.trans (B3.mono HB2.out.size)
  have HHV:Hid _:=hpAt_below HH.out HBV.out
  clear B3 B4 HB1 HO5 HB2 hnT HT0 HT8 HT9 HB3
  obtain⟨z0,z1,z2,z3,z4,z5,z6,z7,z8⟩:=hpb_cells HN4.out
  obtain⟨⟨m0,m1,m2,m3,m4,m5,m6,m7,m8,m9,m10⟩,mz⟩:=hob_cells HTT.out
  clear mz
  have HCP:Hid (∀V',Below V1.heap.size V1 V'→Calls Tryz.prog 29 #[hpv H (.slice a1 H.row.length c1) (.slice a2 H.roots.length c2) (.slice a3 H.mourned.length c3) (.slice a4 H.seen.length c4)] V' fun e w'=>∃g1 g2 g3 g4,e = .returned (hpv H (.slice (some ⟨g1,0,none⟩) H.row.length H.row.length) (.slice (some ⟨g2,0,none⟩) H.roots.length H.roots.length) (.slice (some ⟨g3,0,none⟩) H.mourned.length H.mourned.length) (.slice (some ⟨g4,0,none⟩) H.seen.length H.seen.length))∧OwnH w' V1.heap.size (.slice (some ⟨g1,0,none⟩) H.row.length H.row.length) (.slice (some ⟨g2,0,none⟩) H.roots.length H.roots.length) (.slice (some ⟨g3,0,none⟩) H.mourned.length H.mourned.length) (.slice (some ⟨g4,0,none⟩) H.seen.length H.seen.length) H∧Below V'.heap.size V' w'):=fun V' hV'=>by
   refine (copiedHeap_any (hpAt_below HHV.out hV') HS.out).mono ?_
   rintro e w' ⟨g1,g2,g3,g4,rfl,O,b⟩
   exact⟨g1,g2,g3,g4,rfl,ownH_base O hV'.size,b⟩
  go_upto_region 5 with fail
  clear z0 z1 z2 z3 z4 z5 z6 z7 z8 m0 m1 m2 m3 m4 m5 m6 m7 m8 m9 m10
  generalize hA0:(Act.mk _ _)=A0
  have e4:A0.tmps.getD 4 undef = .pointer (some ⟨n0,0,none⟩):=by rw[←hA0];rfl
  have e10:A0.tmps.getD 10 undef = .pointer (some ⟨nT,0,none⟩):=by rw[←hA0];rfl
  have sz:A0.tmps.size=54:=by rw[←hA0];rfl
  refine wp_region_last (by kernel_rfl) DBb (by simp) ?_ 5 rfl dBb dBb_inj (FBb H a1 a2 a3 a4 a5 c1 c2 c3 c4 c5 V1.heap.size) ?_ ?_ ?_ ?_
  ·intro k o ho
   have hk:k<6:=(Array.getElem?_eq_some_iff.1 ho).1
   rcases (show k=0∨k=1∨k=2∨k=3∨k=4∨k=5 by omega) with rfl|rfl|rfl|rfl|rfl|rfl<;>(obtain rfl:=Option.some.inj ho;simp)
  ·intro k t W W' hb h
   match k,h with
   |0,h=>exact h
   |1,h=>exact h
   |2,h=>exact by obtain⟨g1,g2,g3,g4,e,O⟩:=h;exact⟨g1,g2,g3,g4,e,ownH_below O hb⟩
   |3,h=>exact by obtain⟨g1,g2,g3,g4,e,O⟩:=h;exact⟨g1,g2,g3,g4,e,ownH_below O hb⟩
   |4,h=>exact by obtain⟨g1,g2,g3,g4,B,e,q,O,l⟩:=h;exact⟨g1,g2,g3,g4,B,e,(hb.block _ (lt_of_block q)).trans q,ownH_below O hb,l⟩
   |_+5,h=>exact h.elim
  ·intro l hC kk hkk
   have CL:=hC 5 _ rfl (fun h=>by omega)
   have l4:l 4=true:=CL ⟨4,.data⟩ (by simp) (by simp[Region.binds])
   have l3:l 3=true:=hC 4 _ rfl (fun _=>l4) ⟨3,.data⟩ (by simp) (by simp[Region.binds])
   have l0:l 0=true:=hC 3 _ rfl (fun _=>l3) ⟨0,.data⟩ (by simp) (by simp[Region.binds])
   have l2:l 2=true:=hC 3 _ rfl (fun _=>l3) ⟨2,.data⟩ (by simp) (by simp[Region.binds])
   have l1:l 1=true:=hC 2 _ rfl (fun _=>l2) ⟨1,.data⟩ (by simp) (by simp[Region.binds])
   rcases (show kk=0∨kk=1∨kk=2∨kk=3∨kk=4 by omega) with rfl|rfl|rfl|rfl|rfl
   ·exact l0
   ·exact l1
   ·exact l2
   ·exact l3
   ·exact l4
  ·intro k o u W hk ho hB hF
   have ev:∀s,DBb s=true→s<54→(ovr DBb A0 u).tmps[s]?.getD undef=u s:=fun s h1 h2=>(getD_at _ _).symm.trans (eval_in h1 (by omega))
   have o4:(ovr DBb A0 u).tmps[4]?.getD undef=_:=(getD_at _ _).symm.trans ((eval_out (D:=DBb) (a0:=A0) (u:=u) (s:=4) rfl (by omega)).trans e4)
   have o10:(ovr DBb A0 u).tmps[10]?.getD undef=_:=(getD_at _ _).symm.trans ((eval_out (D:=DBb) (a0:=A0) (u:=u) (s:=10) rfl (by omega)).trans e10)
   obtain⟨z0,z1,z2,z3,z4,z5,z6,z7,z8⟩:=hpb_cells ((hB.block _ (lt_of_block HN4.out)).trans HN4.out)
   obtain⟨⟨m0,m1,m2,m3,m4,m5,m6,m7,m8,m9,m10⟩,mz⟩:=hob_cells ((hB.block _ hlT).trans HTT.out)
   clear mz
   rcases (show k=0∨k=1∨k=2∨k=3∨k=4 by omega) with rfl|rfl|rfl|rfl|rfl
   all_goals obtain rfl:=Option.some.inj ho
   ·refine plainV (v:=hov H (.slice a1 H.row.length c1) (.slice a2 H.roots.length c2) (.slice a3 H.mourned.length c3) (.slice a4 H.seen.length c4) (2*H.half) (.slice a5 (objsP a1 H).length c5)) rfl rfl ?_ rfl
    simp only[execOp]
    go_simp
    try go_num
    try (rw[IntKind.wrap_i64];omega)
   ·refine plainV (v:=hpv H (.slice a1 H.row.length c1) (.slice a2 H.roots.length c2) (.slice a3 H.mourned.length c3) (.slice a4 H.seen.length c4)) rfl rfl ?_ rfl
    simp only[execOp]
    go_simp
    try go_num
    try (rw[IntKind.wrap_i64];omega)
   ·have x1:=(ev 25 rfl (by decide)).trans (hF 1 (by decide) (by simp[Region.binds]))
    refine plainC (f:=29) (args:=#[hpv H (.slice a1 H.row.length c1) (.slice a2 H.roots.length c2) (.slice a3 H.mourned.length c3) (.slice a4 H.seen.length c4)]) rfl rfl ?_ ((HCP.out W hB).mono ?_)
    ·simp only[execOp]
     go_simp
    ·rintro e w' ⟨g1,g2,g3,g4,rfl,O,b⟩
     exact⟨_,rfl,b,g1,g2,g3,g4,rfl,O⟩
   ·have x0:=(ev 24 rfl (by decide)).trans (hF 0 (by decide) (by simp[Region.binds]))
    obtain⟨g1,g2,g3,g4,h2,O2⟩:=hF 2 (by decide) (by simp[Region.binds])
    have x2:=(ev 26 rfl (by decide)).trans h2
    refine plainV (v:=.agg #[.int .i64 H.half,.int .i64 H.old,(.slice a1 H.row.length c1),.int .i64 H.side,.int .i64 H.top,(.slice a2 H.roots.length c2),(.slice a3 H.mourned.length c3),(.slice a4 H.seen.length c4),.int .i64 H.seed,.int .i64 (2*H.half),.slice a5 (objsP a1 H).length c5,.int .i64 H.half,.int .i64 H.old,(.slice (some ⟨g1,0,none⟩) H.row.length H.row.length),.int .i64 H.side,.int .i64 H.top,(.slice (some ⟨g2,0,none⟩) H.roots.length H.roots.length),(.slice (some ⟨g3,0,none⟩) H.mourned.length H.mourned.length),(.slice (some ⟨g4,0,none⟩) H.seen.length H.seen.length),.int .i64 H.seed]) rfl rfl ?_ ⟨g1,g2,g3,g4,rfl,O2⟩
    simp only[execOp]
    go_simp
   ·obtain⟨g1,g2,g3,g4,h3,O3⟩:=hF 3 (by decide) (by simp[Region.binds])
    have x3:=(ev 27 rfl (by decide)).trans h3
    refine wp_value (v:=.pointer (some ⟨W.heap.size,0,none⟩)) (w':=W.alloc (becb H (.slice a1 H.row.length c1) (.slice a2 H.roots.length c2) (.slice a3 H.mourned.length c3) (.slice a4 H.seen.length c4) (2*H.half) (.slice a5 (objsP a1 H).length c5) H (.slice (some ⟨g1,0,none⟩) H.row.length H.row.length) (.slice (some ⟨g2,0,none⟩) H.roots.length H.roots.length) (.slice (some ⟨g3,0,none⟩) H.mourned.length H.mourned.length) (.slice (some ⟨g4,0,none⟩) H.seen.length H.seen.length))) ?_ ⟨_,put_in (d:=28) rfl rfl u _,(Below.refl _ _).alloc (Nat.le_refl _) _,g1,g2,g3,g4,W.heap.size,rfl,heap_alloc_new W _,ownH_below O3 ((Below.refl _ _).alloc (Nat.le_refl _) _),hB.size⟩
    simp only[execOp]
    go_simp
  ·intro o u W ho hB hF
   obtain rfl:=Option.some.inj ho
   have ev:∀s,DBb s=true→s<54→(ovr DBb A0 u).tmps[s]?.getD undef=u s:=fun s h1 h2=>(getD_at _ _).symm.trans (eval_in h1 (by omega))
   have o4:(ovr DBb A0 u).tmps[4]?.getD undef=_:=(getD_at _ _).symm.trans ((eval_out (D:=DBb) (a0:=A0) (u:=u) (s:=4) rfl (by omega)).trans e4)
   have o10:(ovr DBb A0 u).tmps[10]?.getD undef=_:=(getD_at _ _).symm.trans ((eval_out (D:=DBb) (a0:=A0) (u:=u) (s:=10) rfl (by omega)).trans e10)
   obtain⟨z0,z1,z2,z3,z4,z5,z6,z7,z8⟩:=hpb_cells ((hB.block _ (lt_of_block HN4.out)).trans HN4.out)
   obtain⟨⟨m0,m1,m2,m3,m4,m5,m6,m7,m8,m9,m10⟩,mz⟩:=hob_cells ((hB.block _ hlT).trans HTT.out)
   clear mz
   obtain⟨g1,g2,g3,g4,B,h4,hBB,O,hlB⟩:=hF 4 (by decide)
   have x4:=(ev 28 rfl (by decide)).trans h4
   refine wp_value (v:=.pointer (some ⟨B,0,none⟩)) (w':=W) (by simp only[execOp];go_simp) ⟨_,put_in (d:=12) rfl rfl u _,?_⟩
   have HBB:Hid (W.heap[B]? = some (becb H (.slice a1 H.row.length c1) (.slice a2 H.roots.length c2) (.slice a3 H.mourned.length c3) (.slice a4 H.seen.length c4) (2*H.half) (.slice a5 (objsP a1 H).length c5) H (.slice (some ⟨g1,0,none⟩) H.row.length H.row.length) (.slice (some ⟨g2,0,none⟩) H.roots.length H.roots.length) (.slice (some ⟨g3,0,none⟩) H.mourned.length H.mourned.length) (.slice (some ⟨g4,0,none⟩) H.seen.length H.seen.length))):=hBB
   have HO:Hid (OwnH W V1.heap.size (.slice (some ⟨g1,0,none⟩) H.row.length H.row.length) (.slice (some ⟨g2,0,none⟩) H.roots.length H.roots.length) (.slice (some ⟨g3,0,none⟩) H.mourned.length H.mourned.length) (.slice (some ⟨g4,0,none⟩) H.seen.length H.seen.length) H):=O
   have HB5:Hid (Below V1.heap.size V1 W):=hB
   clear hBB O hB z0 z1 z2 z3 z4 z5 z6 z7 z8 m0 m1 m2 m3 m4 m5 m6 m7 m8 m9 m10 ev o4 o10 e4 e10 sz hF ho h4 x4
   subst hA0
   simp[ovr,DBb,List.range,List.range.loop,upd]
   generalize u=uA at *
   have HB6:Hid (Below w.heap.size w W):=HBV.out.trans (HB5.out.mono HBV.out.size)
   have HE4:Hid _:=(HB5.out.block _ (lt_of_block HN4.out)).trans HN4.out
   have HE8:Hid _:=(HB5.out.block _ (lt_of_block HN8.out)).trans HN8.out
   have HE9:Hid _:=(HB5.out.block _ (lt_of_block HN9.out)).trans HN9.out
   have HOB:Hid (∀(V:World) (r:Int),Below W.heap.size W V→Calls Tryz.prog 79 #[.pointer (some ⟨B,0,none⟩),.int .i64 r] V fun e w'=>(rootOk H r=false→e = .panicked [gvUp 1])∧(rootOk H r=true→∃j:Nat,rpX H r=(j:Int)∧e = .returned (pdv (pdOf a1 H.row j)))∧Below V.heap.size V w'):=fun V r hV=>objectOf_any ((hV.block B (lt_of_block HBB.out)).trans HBB.out) (hpAt_below HHV.out (HB5.out.trans (hV.mono HB5.out.size))) (pdsAt_below HP5.out (HB5.out.trans (hV.mono HB5.out.size))) HDR.out HII.out r
   have HGV:Hid (∀(V:World) (tmps:Array Value) (c:Int),Below W.heap.size W V→tmps[8]? = some (.pointer (some ⟨P8,0,none⟩))→tmps[9]? = some (.pointer (some ⟨P9,0,none⟩))→repC H a b=c→c≠0→bodyPostD Tryz.prog Tryz.f39 (BecR w (repA H a b) (repC H a b)) (.panic [gvUp c]) { tmps:=tmps,defers:=[{ target:=.fn (.func 78) #[.pointer (some ⟨n0,0,none⟩),.pointer (some ⟨P8,0,none⟩),.pointer (some ⟨P9,0,none⟩)],args:=#[] }] } V):=fun V tmps c hV t8 t9 hC hc0=>
    bec_gave (HB6.out.trans (hV.mono HB6.out.size)) (by rw[hn0];exact hL8) (by rw[hn0];exact hL9) ((hV.block _ (lt_of_block HE4.out)).trans HE4.out) ((hV.block _ (lt_of_block HE8.out)).trans HE8.out) ((hV.block _ (lt_of_block HE9.out)).trans HE9.out) hP89 HH.out HS.out (by unfold repA;rw[if_pos HDR.out,if_neg (by rw[hC];exact hc0)]) hC t8 t9 (by simp[go_sem])
   have HL8:Hid (P8<V1.heap.size):=lt_of_block HN8.out
   have HL9:Hid (P9<V1.heap.size):=lt_of_block HN9.out
   clear HN4 HN8 HN9 HHV HP5 HTT hlT HCP
   cases ha:rootOk H a
   ·have OA:=(HOB.out W a (Below.refl _ _)).mono (fun e w' hh=>(⟨hh.1 ha,hh.2.2⟩:e = .panicked [gvUp 1]∧Below W.heap.size W w'))
    have hC:repC H a b=1:=by unfold repC;rw[ha];rfl
    have HC:Hid _:=hC
    clear HOB hC ha
    go_wp2_with (go_at_call 79;refine OA.mono ?_;clear OA;rintro e w6 ⟨rfl,b6⟩;have HB7:Hid _:=b6;clear b6)
    exact HGV.out w6 _ 1 HB7.out rfl rfl HC.out (by decide)
   ·have OA:=(HOB.out W a (Below.refl _ _)).mono (fun e w' hh=>(⟨hh.2.1 ha,hh.2.2⟩:(∃j:Nat,rpX H a=(j:Int)∧e = .returned (pdv (pdOf a1 H.row j)))∧Below W.heap.size W w'))
    have HAA:Hid _:=ha
    clear ha
    cases hb:rootOk H b
    ·have HC:Hid (repC H a b=1):=by show _=_;unfold repC;rw[hb,Bool.and_false];rfl
     have HOB0:Hid (∀V,Below W.heap.size W V→Calls Tryz.prog 79 #[.pointer (some ⟨B,0,none⟩),.int .i64 b] V fun e w'=>e = .panicked [gvUp 1]∧Below V.heap.size V w'):=fun V hV=>(HOB.out V b hV).mono (fun e w' hh=>⟨hh.1 hb,hh.2.2⟩)
     clear HOB hb
     go_wp2_with (first
      |(go_at_call 79;refine OA.mono ?_;clear OA;rintro e w6 ⟨⟨j,hj,rfl⟩,b6⟩;have HB7:Hid _:=b6;have OB:=HOB0.out w6 b6;clear b6 HOB0)
      |(go_at_call 79;refine OB.mono ?_;clear OB;rintro e w7 ⟨rfl,b7⟩;have HB8:Hid _:=b7;clear b7))
     exact HGV.out w7 _ 1 (HB7.out.trans (HB8.out.mono HB7.out.size)) rfl rfl HC.out (by decide)
    ·have HBBB:Hid _:=hb
     have HOB1:Hid (∀V,Below W.heap.size W V→Calls Tryz.prog 79 #[.pointer (some ⟨B,0,none⟩),.int .i64 b] V fun e w'=>(∃j:Nat,rpX H b=(j:Int)∧e = .returned (pdv (pdOf a1 H.row j)))∧Below V.heap.size V w'):=fun V hV=>(HOB.out V b hV).mono (fun e w' hh=>⟨hh.2.1 hb,hh.2.2⟩)
     clear HOB hb
     go_upto_region 7 with (first
      |(go_at_call 79;refine OA.mono ?_;clear OA;rintro e w6 ⟨⟨j,hj,rfl⟩,b6⟩;obtain⟨s,f,c,h,p,m,ua,n,uc,hd⟩:∃s f c h p m a n c',pdOf a1 H.row j=⟨s,f,c,h,p,m,.slice a n c',(j:Int)⟩:=⟨_,_,_,_,_,_,_,_,_,rfl⟩;have HDX:Hid _:=hd;have HJ:Hid _:=hj;simp only[hd];clear hd hj;have HB7:Hid _:=b6;have OB:=HOB1.out w6 b6;clear b6 HOB1)
      |(go_at_call 79;refine OB.mono ?_;clear OB;rintro e w7 ⟨⟨k,hk,rfl⟩,b7⟩;obtain⟨s',f',c',h',p',m',ub,n',uc',hd⟩:∃s f c h p m a n c',pdOf a1 H.row k=⟨s,f,c,h,p,m,.slice a n c',(k:Int)⟩:=⟨_,_,_,_,_,_,_,_,_,rfl⟩;have HDY:Hid _:=hd;have HK:Hid _:=hk;simp only[hd];clear hd hk;have HB8:Hid _:=HB7.out.trans (b7.mono HB7.out.size);clear b7))
     have TX:Hid _:=heap_alloc2_old w7 (pdb ⟨s,f,c,h,p,m,.slice ua n uc,(j:Int)⟩) (pdb ⟨s',f',c',h',p',m',.slice ub n' uc',(k:Int)⟩)
     have TY:Hid _:=heap_alloc2_new w7 (pdb ⟨s,f,c,h,p,m,.slice ua n uc,(j:Int)⟩) (pdb ⟨s',f',c',h',p',m',.slice ub n' uc',(k:Int)⟩)
     have HB9:Hid (Below W.heap.size W ((w7.alloc (pdb ⟨s,f,c,h,p,m,.slice ua n uc,(j:Int)⟩)).alloc (pdb ⟨s',f',c',h',p',m',.slice ub n' uc',(k:Int)⟩))):=(HB8.out.alloc HB8.out.size _).alloc (HB8.out.alloc HB8.out.size _).size _
     generalize hV:(w7.alloc (Obj.cells _ _)).alloc (Obj.cells _ _)=V9
     have hV9:(w7.alloc (pdb ⟨s,f,c,h,p,m,.slice ua n uc,(j:Int)⟩)).alloc (pdb ⟨s',f',c',h',p',m',.slice ub n' uc',(k:Int)⟩)=V9:=hV
     rw[hV9]at TX TY HB9
     clear hV hV9 HB7 HB8
     generalize w7.heap.size+1=nY at *
     generalize w7.heap.size=nX at *
     obtain⟨⟨x0,x1,x2,x3,x4,x5,x6,x7⟩,xz⟩:=pdb_cells TX.out
     obtain⟨⟨y0,y1,y2,y3,y4,y5,y6,y7⟩,yz⟩:=pdb_cells TY.out
     clear xz yz
     by_cases hjk:j=k
     ·have HC:Hid (repC H a b=2):=by show _=_;unfold repC;rw[HAA.out,HBBB.out,HJ.out,HK.out,hjk];simp
      subst hjk
      clear x0 x1 x2 x3 x4 x5 x6 y0 y1 y2 y3 y4 y5 y6
      simp only at x7 y7
      go_wp2_with (go_at_call 41;refine (giveUp_yes 2 _).mono ?_;rintro e w' ⟨rfl,rfl⟩)
      exact HGV.out _ _ 2 HB9.out rfl rfl HC.out (by decide)
     ·have hjk':¬((j:Int)=(k:Int)):=by omega
      simp only at x0 x1 x2 x3 x4 x5 x6 x7 y0 y1 y2 y3 y4 y5 y6 y7
      have hbe:((j:Int)==(k:Int))=false:=by simpa using hjk'
      go_upto_region 8 with (go_at_call 41;refine (giveUp_no 2 _).mono ?_;rintro e w' ⟨rfl,hw'⟩;rw[hw'];clear hw' w')
      obtain⟨ps,R⟩:=rt_of (ok_right HDR.out).1
      obtain⟨j2,k2,P⟩:=rep_of R (a:=a) (b:=b) (by rw[HAA.out,HBBB.out];rfl)
      have ej:j2=j:=by have:=P.ea.symm.trans HJ.out;omega
      have ek:k2=k:=by have:=P.eb.symm.trans HK.out;omega
      subst ej ek
      have hd:=HDX.out
      unfold pdOf at hd
      obtain⟨d1,d2,d3,d4,d5,d6,d7⟩:=Pd.mk.inj hd
      obtain⟨e1,s0,s1,s2⟩:=chunk_sz P.chk P.n6
      have hu:(chunk H.row j2).toNat=n:=by
       unfold piece at d7
       exact (Value.slice.inj d7.1).2.1
      have hcb:=chunk_bounds H.row j2
      have hsn:sz s=(n:Int):=by rw[←d1];omega
      have HF:Hid (Full V9 g1 H.row):=full_belowR (own_full HO.out.1.1 rfl) HB9.out
      have hFl:=lt_of_block (own_full HO.out.1.1 rfl)
      have hrl:=R.len
      have hB9:=(HB9.out.block B (lt_of_block HBB.out)).trans HBB.out
      have RC:=repChange_any (s:=s) (n:=n) (j:=j2) (k:=k2) (f:=f) (c:=c) (h:=h) (p:=p) (m:=m) (ua:=ua) (uc:=uc) (s':=s') (f':=f') (c':=c') (h':=h') (p':=p') (m':=m') (ub:=ub) (n':=n') (uc':=uc') hB9 HF.out (by omega) (show k2≤999 by have:=P.lt2;omega) (by omega) (by omega) hsn (by rw[←hu];omega)
      have HR:Hid _:=R
      have HP:Hid _:=P
      have HSN:Hid _:=hsn
      cases p
      ·have RC0:=RC.mono (fun e w' hh=>(⟨hh.2.1 rfl,hh.2.2⟩:(e = .returned (.tuple #[])∧Full w' g1 (put H.row j2 (pk s 7 0 0 false false) [4*(k2:Int)+4] 1 n))∧V9.grownBy w' (some g1)))
       have hC:repC H a b=0:=by unfold repC;rw[HAA.out,HBBB.out,HJ.out,HK.out,if_pos (show (true&&true)=true from rfl),if_neg hjk',Int.toNat_natCast,d5];rfl
       have hA:repA H a b=repF H j2 (4*(k2:Int)+4):=by unfold repA;rw[if_pos HDR.out,if_pos hC,HJ.out,HK.out,Int.toNat_natCast]
       have HA0:Hid _:=hA
       have HC0:Hid _:=hC
       have hx:=rep_word R P.lt2
       have hrp:=rep_places R.some' P.obj hx.1
       have HNB:Hid (numB (repH H j2 (4*(k2:Int)+4))=true):=hrp.2.2.2
       have HRB:Hid (roomB (some ⟨g1,0,none⟩) (repH H j2 (4*(k2:Int)+4))=true):=by
        show _=_
        cases er:roomB (some ⟨g1,0,none⟩) (repH H j2 (4*(k2:Int)+4))
        ·have h1:=room_none HNB.out er
         have h2:=hrp.1
         unfold placesR at h2
         rw[h1]at h2
         split at h2<;>cases h2
        ·rfl
       have HLN:Hid ((repH H j2 (4*(k2:Int)+4)).row.length=H.row.length):=(rep_other (apart_of R.some') P.obj _).1
       have HAL:Hid (AllI (repH H j2 (4*(k2:Int)+4)).row):=nt_mem s0 s1 s2 hx.2.2 HII.out.2.1
       have HEM:Hid (put H.row j2 (pk s 7 0 0 false false) [4*(k2:Int)+4] 1 n=(repH H j2 (4*(k2:Int)+4)).row):=by
        show _=ntR H.row j2 (uS (H.row.getD j2 0)) (4*(k2:Int)+4)
        unfold ntR
        rw[d1,hsn,Int.toNat_natCast]
       have HRL:Hid (H.row.length≤1000):=hrl
       clear hx hrp RC hd d1 d2 d3 d4 d5 d6 d7 e1 s0 s1 s2 hu hcb hFl hrl R P hC hA hjk hjk' hbe HGV hsn
       go_upto_region 9 with (go_at_call 40;refine RC0.mono ?_;clear RC0 x0 x1 x2 x3 x4 x5 x6 x7 y0 y1 y2 y3 y4 y5 y6 y7;rintro e w10 ⟨⟨rfl,hF10⟩,hg10⟩;have HF10:Hid _:=hF10;have HG10:Hid _:=hg10;clear hF10 hg10)
       have hneq:∀(g:Nat) (xs:List Int),Full W g xs→B≠g:=fun g xs hf e=>by
        subst e
        have q:=HBB.out.symm.trans hf
        exact absurd (show (70:Nat)=2 from congrArg (fun o=>match o with|some (Obj.cells _ t _)=>t|_=>0) q) (by decide)
       have HX1:Hid (B≠g1):=hneq g1 _ (own_full HO.out.1.1 rfl)
       have HX2:Hid (B≠g2):=hneq g2 _ (own_full HO.out.1.2.1 rfl)
       have HX3:Hid (B≠g3):=hneq g3 _ (own_full HO.out.1.2.2.1 rfl)
       have O9:Hid _:=ownH_below HO.out HB9.out
       have C10:Hid (Ch [g1] V9 w10):=⟨HG10.out.os,HG10.out.tape,HG10.out.output,HG10.out.size,fun k hk hn=>HG10.out.block k hk (fun e=>hn (by cases e;simp))⟩
       have hF10:Full w10 g1 (repH H j2 (4*(k2:Int)+4)).row:=by rw[←HEM.out];exact HF10.out
       have HF11:Hid _:=hF10
       have hnd:=O9.out.2
       simp[hblk,blk_of]at hnd
       have HND:Hid (g1≠g2∧g1≠g3∧g1≠g4):=⟨hnd.1.1,hnd.1.2.1,hnd.1.2.2⟩
       have HAT:HpAt w10 (.slice (some ⟨g1,0,none⟩) (repH H j2 (4*(k2:Int)+4)).row.length (repH H j2 (4*(k2:Int)+4)).row.length) (.slice (some ⟨g2,0,none⟩) H.roots.length H.roots.length) (.slice (some ⟨g3,0,none⟩) H.mourned.length H.mourned.length) (.slice (some ⟨g4,0,none⟩) H.seen.length H.seen.length) (repH H j2 (4*(k2:Int)+4)):=
        ⟨own_ints (full_own hF10 (Nat.zero_le _) (by rw[HLN.out];have:=HRL.out;unfold maxLen;omega)),own_ints (row_ch O9.out.1.2.1 C10.out (fun k hk=>by rw[blk_of]at hk;simp at hk ⊢; rw[hk];exact fun e=>HND.out.1 e.symm)),own_ints (row_ch O9.out.1.2.2.1 C10.out (fun k hk=>by rw[blk_of]at hk;simp at hk ⊢; rw[hk];exact fun e=>HND.out.2.1 e.symm)),own_ints (row_ch O9.out.1.2.2.2 C10.out (fun k hk=>by rw[blk_of]at hk;simp at hk ⊢; rw[hk];exact fun e=>HND.out.2.2 e.symm))⟩
       have hB9':=(HB9.out.block B (lt_of_block HBB.out)).trans HBB.out
       have hB10:=(C10.out.block B (lt_of_block hB9') (by simp;exact HX1.out)).trans hB9'
       have SA:=seeAnewC_any (H:=repH H j2 (4*(k2:Int)+4)) hB10 rfl rfl (by rw[HLN.out];rfl) rfl rfl rfl rfl rfl rfl HAT HNB.out HRB.out HAL.out
       clear hneq hF10 hnd HAT hB9' hB10 HAL HRB HNB HF10 HG10
       go_upto_region 10 with (go_at_call 35;refine SA.mono ?_;clear SA;rintro e w11 ⟨zv,rfl,Oz,hT11,hc11⟩;obtain⟨zu,zn,zc,rfl⟩:=ints_slice (own_ints Oz);have HOZ:Hid _:=Oz;have HC11:Hid _:=hc11;have HT11:Hid (w11.heap[B]? = some (becb H (.slice a1 H.row.length c1) (.slice a2 H.roots.length c2) (.slice a3 H.mourned.length c3) (.slice a4 H.seen.length c4) (2*H.half) (.slice a5 (objsP a1 H).length c5) H (.slice (some ⟨g1,0,none⟩) H.row.length H.row.length) (.slice (some ⟨g2,0,none⟩) H.roots.length H.roots.length) (.slice (some ⟨g3,0,none⟩) H.mourned.length H.mourned.length) (.slice zu zn zc))):=hT11.trans (by simp);clear Oz hc11 hT11)
       have HCW:Hid (Ch [g1,B] W w11):=(ch_below HB9.out).trans ((C10.out.mono (by simp)).trans (HC11.out.mono (by simp)))
       have hlg:=ownH_lt HO.out
       have HQ1:Hid (V1.heap.size≤g1):=(hlg g1 (in_hblk.1 _ (by rw[blk_of];simp))).1
       have hz8:=HL8.out
       have hz9:=HL9.out
       have hq1:=HQ1.out
       have HN8:Hid _:=(HCW.out.block P8 (lt_of_block HE8.out) (by simp;omega)).trans HE8.out
       have HN9:Hid _:=(HCW.out.block P9 (lt_of_block HE9.out) (by simp;omega)).trans HE9.out
       obtain⟨⟨b0,b1,b2,b3,b4,b5,b6,b7,b8,b9,b10,b11,b12,b13,b14,b15,b16,b17,b18,b19⟩,bz⟩:=becb_cells HT11.out
       obtain⟨y0,y1,y2,y3,y4,y5,y6,y7,y8⟩:=hpb_cells HN8.out
       obtain⟨f0,f1,f2,f3,f4,f5,f6,f7,f8⟩:=hpb_froz HN8.out
       have y9:w11.cell? ⟨P9,0,none⟩=some (.int .i64 0):=by simp[World.cell?, HN9.out]
       have f9:w11.frozen? ⟨P9,0,none⟩=false:=by simp[World.frozen?, HN9.out]
       have hne5:¬P8=P9:=hP89
       have hne6:¬P9=P8:=fun e=>hP89 e.symm
       have hne7:¬B=P8:=by omega
       have hne8:¬P8=B:=by omega
       have hlw1:V1.heap.size≤W.heap.size:=HB5.out.size
       clear bz hlg
       go_wp2_with fail
       have N8:=nine_sets HN8.out (.int .i64 H.half) (.int .i64 H.old) (.slice (some ⟨g1,0,none⟩) H.row.length H.row.length) (.int .i64 H.side) (.int .i64 H.top) (.slice (some ⟨g2,0,none⟩) H.roots.length H.roots.length) (.slice (some ⟨g3,0,none⟩) H.mourned.length H.mourned.length) (.slice zu zn zc) (.int .i64 H.seed)
       have C8:=nine_sets_ch w11 P8 (.int .i64 H.half) (.int .i64 H.old) (.slice (some ⟨g1,0,none⟩) H.row.length H.row.length) (.int .i64 H.side) (.int .i64 H.top) (.slice (some ⟨g2,0,none⟩) H.roots.length H.roots.length) (.slice (some ⟨g3,0,none⟩) H.mourned.length H.mourned.length) (.slice zu zn zc) (.int .i64 H.seed)
       generalize (World.setCell (World.setCell (World.setCell (World.setCell (World.setCell (World.setCell (World.setCell (World.setCell (World.setCell w11 _ _) _ _) _ _) _ _) _ _) _ _) _ _) _ _) _ _)=V8 at *
       have C9:Ch [P8,P9] w11 (V8.setCell ⟨P9,0,none⟩ (.int .i64 0)):=(C8.mono (by simp)).trans ((one_ch V8 P9 0 _).mono (by simp))
       have CV9:Ch [g1,B] V9 w11:=(C10.out.mono (by simp)).trans (HC11.out.mono (by simp))
       have CT:Ch [g1,B,P8,P9] V9 (V8.setCell ⟨P9,0,none⟩ (.int .i64 0)):=(CV9.mono (by simp)).trans (C9.mono (by simp))
       have hb9:=HB9.out.size
       have hbw:=HBV.out.size
       have hFe:Full (V8.setCell ⟨P9,0,none⟩ (.int .i64 0)) g1 (repH H j2 (4*(k2:Int)+4)).row:=(C9.block g1 (by have:=lt_of_block HF11.out;have:=HC11.out.size;omega) (by simp;omega)).trans ((HC11.out.block g1 (lt_of_block HF11.out) (by simp;exact fun e=>HX1.out e.symm)).trans HF11.out)
       have OF:=rep_own (M:=repF H j2 (4*(k2:Int)+4)) O9.out CT (fun e=>HX2.out e.symm) (fun e=>HX3.out e.symm) hz8 hz9 hFe HLN.out (by rw[HLN.out];have:=HRL.out;unfold maxLen;omega) rfl rfl rfl rfl hbw (row_ch HOZ.out C9 (fun k hk=>by have:=(blk_lt HOZ.out k hk).1;have:=C10.out.size;simp;omega)) C10.out.size
       have BF:Below w.heap.size w (V8.setCell ⟨P9,0,none⟩ (.int .i64 0)):=(HB6.out.trans (HB9.out.mono HB6.out.size)).trans (below_ch CT (by have:=HB6.out.size;omega) (fun k hk=>by simp at hk;rw[hn0];omega))
       exact bec_done (p4:=.pointer (some ⟨n0,0,none⟩)) (B:=repF H j2 (4*(k2:Int)+4)) BF ((Below.heap_setCell V8 _ _ P8 hne5).trans N8) ((cells_setCell ((C8.block P9 (lt_of_block HN9.out) (by simp;exact hne6)).trans HN9.out) 0 _).trans rfl) OF HA0.out HC0.out rfl rfl (by simp[go_sem])
      ·have RC0:=RC.mono (fun e w' hh=>(hh.1 rfl:e = .panicked [gvUp 3]∧Below V9.heap.size V9 w'))
       have HC:Hid (repC H a b=3):=by show _=_;unfold repC;rw[HAA.out,HBBB.out,HJ.out,HK.out,if_pos (show (true&&true)=true from rfl),if_neg hjk',Int.toNat_natCast,d5];rfl
       clear RC hd d1 d2 d3 d4 d5 d6 d7 e1 s0 s1 s2 hu hcb hFl hrl R P hjk hjk' hbe hsn
       go_wp2_with (go_at_call 40;refine RC0.mono ?_;clear RC0 x0 x1 x2 x3 x4 x5 x6 x7 y0 y1 y2 y3 y4 y5 y6 y7;rintro e w10 ⟨rfl,hg10⟩;have HG10:Hid _:=hg10;clear hg10)
       exact HGV.out w10 _ 3 (HB9.out.trans (HG10.out.mono HB9.out.size)) rfl rfl HC.out (by decide)
end Go.Proofs.YtemlagfaaibenaaGreat.hp
