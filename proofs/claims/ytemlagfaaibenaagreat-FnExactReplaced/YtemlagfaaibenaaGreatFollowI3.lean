/-
  Chapter 10 as the program has it: HashOf and ClassOf.
  Made from the template FollowI3.
-/
import Derived.Test.YtemlagfaaibenaaGreatM21
import Derived.Test.YtemlagfaaibenaaGreatM19
import Derived.Deep.RegionLaw
import Derived.Test.YtemlagfaaibenaaGreatM12
namespace Go.Proofs.YtemlagfaaibenaaGreat.hp
open Go.RowKit rows heads words walks region
set_option maxRecDepth 100000
set_option linter.unusedVariables false
set_option linter.unusedSimpArgs false
def dRO (k:Nat):Nat:=if k≤10 then 10+k else if k=11 then 1000 else 5
def DRO (s:Nat):Bool:=(decide (10≤s)&&decide (s≤20)) || s==5
theorem dRO_inj:∀k,k<13→∀j,j<13→dRO j=dRO k→j=k:=by decide
def FRO (B n1 rb ro c2 ln kk:Nat) (rv:Value) (x:Int) (K:Pd→Prop) (bA:Bool) (j:Nat) (t:Value) (W:World):Prop:=
 match j with
 |0=>t = .pointer (some ⟨n1,9,none⟩)
 |1=>t=rv
 |2=>t = .pointer (some ⟨n1,0,none⟩)
 |3=>t = .pointer (some ⟨n1,5,none⟩)
 |4=>t = .slice (some ⟨rb,ro,none⟩) ln c2
 |5=>t = .int .i64 (kk:Int)
 |6=>t = .pointer (some ⟨rb,ro+kk,none⟩)
 |7=>t = .int .i64 x
 |8=>∃d,K d∧t = .tuple #[pdv d,.bool bA]
 |9=>∃d,K d∧t=pdv d
 |10=>t = .bool bA
 |11=>∃d,K d∧W.heap[B]? = some (pdb d)
 |12=>t = .bool bA
 |_=>False
theorem rtH_all {w:World} {H:Hp} {vr vo vm vs:Value} {up:Int} {v:Value}:∀V,Below ((w.alloc (hob H vr vo vm vs up v)).alloc (pdb pdD)).heap.size ((w.alloc (hob H vr vo vm vs up v)).alloc (pdb pdD)) V→V.heap[w.heap.size]? = some (hob H vr vo vm vs up v)∧V.heap[w.heap.size+1]? = some (pdb pdD)∧Below w.heap.size w V∧w.heap.size+2≤V.heap.size:=by
 intro V hV
 have B0:Below w.heap.size w (w.alloc (hob H vr vo vm vs up v)):=(Below.refl _ _).alloc (Nat.le_refl _) _
 have B1:=B0.alloc B0.size (pdb pdD)
 have T1:=heap_alloc_new (w.alloc (hob H vr vo vm vs up v)) (pdb pdD)
 have T2:Below (w.heap.size+1) (w.alloc (hob H vr vo vm vs up v)) V:=((Below.refl _ _).alloc (by simp) _).trans (hV.mono (by simp))
 have hs:=hV.size
 have q0:V.heap[w.heap.size]? = some (hob H vr vo vm vs up v):=(T2.block _ (by omega)).trans (heap_alloc_new w _)
 have q1:V.heap[w.heap.size+1]? = some (pdb pdD):=(hV.block (w.heap.size+1) (by simp)).trans ((congrArg (fun k=>((w.alloc (hob H vr vo vm vs up v)).alloc (pdb pdD)).heap[k]?) (show w.heap.size+1=(w.alloc (hob H vr vo vm vs up v)).heap.size by simp)).trans T1)
 exact⟨q0,q1,B1.trans (hV.mono B1.size),by simpa using hs⟩
set_option maxHeartbeats 16000000 in
theorem houseRoot_any {w:World} {a1 a2 a3 a4 a5:Option Addr} {c1 c2 c3 c4 c5:Nat} {H:Hp} (h:HpAt w (.slice a1 H.row.length c1) (.slice a2 H.roots.length c2) (.slice a3 H.mourned.length c3) (.slice a4 H.seen.length c4) H) (hP:PdsAt w (.slice a5 (objsP a1 H).length c5) (objsP a1 H)) (dr:heapOk H=true) (hI:HpI H) (r:Int) :
    Calls Tryz.prog 47 #[hov H (.slice a1 H.row.length c1) (.slice a2 H.roots.length c2) (.slice a3 H.mourned.length c3) (.slice a4 H.seen.length c4) (2*H.half) (.slice a5 (objsP a1 H).length c5),.int .i64 r] w fun e w'=>(rootOk H r=false→e = .returned (.tuple #[pdv pdD,.bool false]))∧(rootOk H r=true→∃i,i<(objsP a1 H).length∧((objsP a1 H).getD i pdD).pl=av (fol H (H.roots.getD r.toNat 0))∧e = .returned (.tuple #[pdv ((objsP a1 H).getD i pdD),.bool true]))∧Below w.heap.size w w':=by
 have HALL:Hid _:= @rtH_all w H (.slice a1 H.row.length c1) (.slice a2 H.roots.length c2) (.slice a3 H.mourned.length c3) (.slice a4 H.seen.length c4) (2*H.half) (.slice a5 (objsP a1 H).length c5)
 have RI:=rootInRangeH_any r
 cases di:inR 0 5 r
 ·have HO:Hid (rootOk H r=false):=by show _=_;unfold rootOk;rw[di];simp
  simp only[di]at RI
  clear dr di h hP hI
  go_enter Tryz.func47,Tryz.ntmps47
  go_upto_region 1 with fail
  obtain⟨_,q1,bw,s1⟩:=HALL.out _ (Below.refl _ _)
  obtain⟨⟨g0,g1,g2,g3,g4,g5,g6,g7⟩,f0,f1,f2,f3,f4,f5,f6,f7⟩:=pdb_cells q1
  have HQ1:Hid _:=q1
  have HBW:Hid _:=bw
  clear q1 bw HALL
  generalize (w.alloc _).alloc _=Y at *
  go_wp2_with (go_at_call 83;refine (RI _).mono ?_;clear RI;rintro e w3 ⟨rfl,hw3⟩;rw[hw3];clear hw3 w3)
  exact bodyPost_ret (res_pd rfl rfl rfl (pdb_set HQ1.out pdD)) rfl ⟨fun _=>rfl,fun e=>absurd (HO.out.symm.trans e) (by decide),pdb_below HBW.out (by omega) pdD⟩
 simp only[di]at RI
 obtain⟨ps,FP⟩:=folP_of (a:=a1) dr
 have N:=(places_facts FP.rt.some').1
 have hrt:=(ok_right dr).1
 rw[←openB_is a1 H]at hrt
 obtain⟨hn,hro,_⟩:=openB_parts hrt
 have HII:Hid _:=hI
 have HH0:Hid _:=h
 have HP0:Hid _:=hP
 have HRA:Hid (∀V v,HpAt V (.slice a1 H.row.length c1) (.slice a2 H.roots.length c2) (.slice a3 H.mourned.length c3) (.slice a4 H.seen.length c4) H→PdsAt V v (objsP a1 H)→RoomsAt V v (objsP a1 H) (slP H.row)):=fun V v h1 h2=>roomsAt_of h1.1 hn hro HII.out.2.1 h2
 obtain⟨k,hk,hk6⟩:∃k:Nat,r=k∧k<6:=by
  simp only[inR,Bool.and_eq_true,decide_eq_true_eq]at di
  exact⟨r.toNat,by omega,by omega⟩
 subst hk
 have hkl:k<H.roots.length:=by rw[N.roots];exact hk6
 obtain⟨x,hxx⟩:∃x,H.roots.getD k 0=x:=⟨_,rfl⟩
 have hmx:x ∈ H.roots:=by rw[←hxx,List.getD_eq_getElem?_getD,List.getElem?_eq_getElem hkl];exact List.getElem_mem hkl
 have hwx:wordIn H ps x=true:=by
  have:=FP.rt.roots
  rw[List.all_eq_true]at this
  exact this _ hmx
 have hxb:I64 x:=HII.out.2.2.1 x hmx
 have HRO:Hid (rootOk H k=isA (fol H x)):=by show _=_;unfold rootOk;rw[dr,di,Int.toNat_natCast,hxx];rfl
 have HST:Hid (∀V,RoomsAt V (.slice a5 (objsP a1 H).length c5) (objsP a1 H) (slP H.row)→Calls Tryz.prog 84 #[rmv (2*H.half) (.slice a5 (objsP a1 H).length c5),.int .i64 x] V fun e w'=>(isA (fol H x)=false→e = .returned (.tuple #[pdv pdD,.bool false]))∧(isA (fol H x)=true→∃i,i<(objsP a1 H).length∧((objsP a1 H).getD i pdD).pl=av (fol H x)∧e = .returned (.tuple #[pdv ((objsP a1 H).getD i pdD),.bool true]))∧Below V.heap.size V w'):=fun V rm=>standing_any rm FP HII.out.2.1 x hwx hxb
 have HSL:Hid (∀i,i<(objsP a1 H).length→∃a n c,((objsP a1 H).getD i pdD).u = .slice a n c):=fun i hi=>by
  obtain⟨j,e,hc,h6⟩:=objs_in hro _ (mem_getDP hi)
  rw[e]
  exact⟨_,_,_,rfl⟩
 obtain⟨bA,hbA⟩:∃bA,isA (fol H x)=bA:=⟨_,rfl⟩
 rw[hbA]at HRO
 simp only[hbA]at HST
 rw[Int.toNat_natCast,hxx]
 obtain⟨rb,ro,ev,hrb,x0⟩:=ints_cell h.2.1 hkl
 subst ev
 rw[hxx]at x0
 have HX0:Hid _:=x0
 clear dr di FP N hrt hn hro hmx hwx hxb hxx hI hbA h hP x0
 go_enter Tryz.func47,Tryz.ntmps47
 go_upto_region 3 with (go_at_call 83;refine (RI _).mono ?_;clear RI;rintro e w3 ⟨rfl,hw3⟩;rw[hw3];clear hw3 w3)
 obtain⟨QH,QB,BW,sB⟩:=HALL.out _ (Below.refl _ _)
 have x0:=(BW.cell (p:=⟨rb,ro+k,none⟩) hrb).trans HX0.out
 have hsz:rb<((w.alloc (hob H (.slice a1 H.row.length c1) (.slice (some ⟨rb,ro,none⟩) H.roots.length c2) (.slice a3 H.mourned.length c3) (.slice a4 H.seen.length c4) (2*H.half) (.slice a5 (objsP a1 H).length c5))).alloc (pdb pdD)).heap.size:=by simp;omega
 have hkl':(k:Int)<(H.roots.length:Int):=by omega
 have HBW:Hid _:=BW
 clear HALL BW
 generalize hYY:(w.alloc _).alloc _=Y at *
 clear hYY
 have HCV:Hid (∀V,Ch [w.heap.size+1] Y V→RoomsAt V (.slice a5 (objsP a1 H).length c5) (objsP a1 H) (slP H.row)):=fun V hV=>by
  have hB:Below w.heap.size w V:=HBW.out.trans (below_ch hV HBW.out.size (fun k hk=>by simp at hk;omega))
  exact HRA.out V _ (hpAt_below HH0.out hB) (pdsAt_below HP0.out hB)
 have HKD:Hid (∃K:Pd→Prop,(∀d,K d→∃a n c,d.u = .slice a n c)∧(rootOk H k=true→∀d,K d→∃i,i<(objsP a1 H).length∧((objsP a1 H).getD i pdD).pl=av (fol H x)∧d=(objsP a1 H).getD i pdD)∧(rootOk H k=false→∀d,K d→d=pdD)∧(∀V,Ch [w.heap.size+1] Y V→Calls Tryz.prog 84 #[rmv (2*H.half) (.slice a5 (objsP a1 H).length c5),.int .i64 x] V fun e w'=>(∃d,K d∧e = .returned (.tuple #[pdv d,.bool bA]))∧Below V.heap.size V w')):=by
  cases bA
  ·refine⟨fun d=>d=pdD,fun d hd=>by subst hd;exact⟨_,_,_,rfl⟩,fun e=>absurd (HRO.out.symm.trans e) (by decide),fun _ d hd=>hd,fun V hV => ?_⟩
   exact (HST.out V (HCV.out V hV)).mono (fun e w' hh=>⟨⟨pdD,rfl,hh.1 (by trivial)⟩,hh.2.2⟩)
  ·refine⟨fun d=>∃i,i<(objsP a1 H).length∧((objsP a1 H).getD i pdD).pl=av (fol H x)∧d=(objsP a1 H).getD i pdD,fun d hd=>by obtain⟨i,hi,_,rfl⟩:=hd;exact HSL.out i hi,fun _ d hd=>hd,fun e=>absurd (HRO.out.symm.trans e) (by decide),fun V hV => ?_⟩
   refine (HST.out V (HCV.out V hV)).mono (fun e w' hh => ?_)
   obtain⟨i,hi,hp,he⟩:=hh.2.1 (by trivial)
   exact⟨⟨_,⟨i,hi,hp,rfl⟩,he⟩,hh.2.2⟩
 obtain⟨K,hK1,hK2,hK3,hK4⟩:=HKD.out
 have HRB:Hid _:=HRO.out
 obtain⟨n1,hn1e⟩:∃n1,w.heap.size=n1:=⟨_,rfl⟩
 obtain⟨B,hBe⟩:∃B,w.heap.size+1=B:=⟨_,rfl⟩
 rw[hBe]at QB hK4 ⊢
 rw[hn1e]at QH ⊢
 have hn1:n1≠B:=by omega
 have hyr:rb<Y.heap.size:=hsz
 have hBB:w.heap.size≤B:=by omega
 clear HST HKD HRO HCV HRA HH0 HP0 HSL HX0
 generalize hA0:(Act.mk _ [])=A0
 have e1:A0.tmps.getD 1 undef = .int .i64 (k:Int):=by rw[←hA0];rfl
 have e4:A0.tmps.getD 4 undef = .pointer (some ⟨B,0,none⟩):=by rw[←hA0];rfl
 have e2:A0.tmps.getD 2 undef = .pointer (some ⟨n1,0,none⟩):=by rw[←hA0];rfl
 have sz:A0.tmps.size=21:=by rw[←hA0];rfl
 have ed:A0.defers=[]:=by rw[←hA0]
 clear hA0
 refine wp_region_guarded (by kernel_rfl) DRO (RelB B (fun o=>∃d,K d∧o=some (pdb d)) (fun o=>∃d,o=some (pdb d))) (relB_trans _ _ _) (relB_drew _ _ _ _) (by
     intro k o ho
     have hk:k<13:=(Array.getElem?_eq_some_iff.1 ho).1
     rcases (show k=0∨k=1∨k=2∨k=3∨k=4∨k=5∨k=6∨k=7∨k=8∨k=9∨k=10∨k=11∨k=12 by omega) with rfl|rfl|rfl|rfl|rfl|rfl|rfl|rfl|rfl|rfl|rfl|rfl|rfl<;>(obtain rfl:=Option.some.inj ho;simp)) 13 rfl dRO dRO_inj
  (FRO B n1 rb ro c2 H.roots.length k (rmv (2*H.half) (.slice a5 (objsP a1 H).length c5)) x K bA) ?_ ?_ ?_
 ·intro j t W W' hR h
  match j,h with
  |0,h=>exact h
  |1,h=>exact h
  |2,h=>exact h
  |3,h=>exact h
  |4,h=>exact h
  |5,h=>exact h
  |6,h=>exact h
  |7,h=>exact h
  |8,h=>exact h
  |9,h=>exact h
  |10,h=>exact h
  |11,h=>exact hR.2.1 h
  |12,h=>exact h
  |_+13,h=>exact h.elim
 ·intro j o u W hj ho hR hF
  have ev:∀s,DRO s=true→s<21→(ovr DRO A0 u).tmps[s]?.getD undef=u s:=fun s h1 h2=>(getD_at _ _).symm.trans (eval_in h1 (by omega))
  have x1:(ovr DRO A0 u).tmps[1]?.getD undef=_:=(getD_at _ _).symm.trans ((eval_out (D:=DRO) (a0:=A0) (u:=u) (s:=1) rfl (by omega)).trans e1)
  have x4:(ovr DRO A0 u).tmps[4]?.getD undef=_:=(getD_at _ _).symm.trans ((eval_out (D:=DRO) (a0:=A0) (u:=u) (s:=4) rfl (by omega)).trans e4)
  have x6:(ovr DRO A0 u).tmps[2]?.getD undef=_:=(getD_at _ _).symm.trans ((eval_out (D:=DRO) (a0:=A0) (u:=u) (s:=2) rfl (by omega)).trans e2)
  have qH:=(hR.1.block n1 (lt_of_block QH) (by simp;omega)).trans QH
  obtain⟨⟨m0,m1,m2,m3,m4,m5,m6,m7,m8,m9,m10⟩,_⟩:=hob_cells qH
  have c0:=(ch_cell (p:=⟨rb,ro+k,none⟩) hR.1 hyr (by simp;omega)).trans x0
  rcases (show j=0∨j=1∨j=2∨j=3∨j=4∨j=5∨j=6∨j=7∨j=8∨j=9∨j=10∨j=11∨j=12 by omega) with rfl|rfl|rfl|rfl|rfl|rfl|rfl|rfl|rfl|rfl|rfl|rfl|rfl
  all_goals obtain rfl:=Option.some.inj ho
  ·refine tellV (v:=.pointer (some ⟨n1,9,none⟩)) ?_ ?_ ?_ ?_ (relB_refl _ _ _ _) ?_
   ·exact rfl
   ·exact rfl
   ·exact rfl
   ·simp only[execOp]
    go_simp
   ·exact rfl
  ·have y:=(ev 10 rfl (by decide)).trans (hF 0 (by decide) (by simp[Region.binds]))
   refine tellV (v:=rmv (2*H.half) (.slice a5 (objsP a1 H).length c5)) ?_ ?_ ?_ ?_ (relB_refl _ _ _ _) ?_
   ·exact rfl
   ·exact rfl
   ·exact rfl
   ·simp only[execOp]
    go_simp
   ·exact rfl
  ·refine tellV (v:=.pointer (some ⟨n1,0,none⟩)) ?_ ?_ ?_ ?_ (relB_refl _ _ _ _) ?_
   ·exact rfl
   ·exact rfl
   ·exact rfl
   ·simp only[execOp]
    go_simp
   ·exact rfl
  ·have y:=(ev 12 rfl (by decide)).trans (hF 2 (by decide) (by simp[Region.binds]))
   refine tellV (v:=.pointer (some ⟨n1,5,none⟩)) ?_ ?_ ?_ ?_ (relB_refl _ _ _ _) ?_
   ·exact rfl
   ·exact rfl
   ·exact rfl
   ·simp only[execOp]
    go_simp
   ·exact rfl
  ·have y:=(ev 13 rfl (by decide)).trans (hF 3 (by decide) (by simp[Region.binds]))
   refine tellV (v:=.slice (some ⟨rb,ro,none⟩) H.roots.length c2) ?_ ?_ ?_ ?_ (relB_refl _ _ _ _) ?_
   ·exact rfl
   ·exact rfl
   ·exact rfl
   ·simp only[execOp]
    go_simp
   ·exact rfl
  ·refine tellV (v:=.int .i64 (k:Int)) ?_ ?_ ?_ ?_ (relB_refl _ _ _ _) ?_
   ·exact rfl
   ·exact rfl
   ·exact rfl
   ·simp only[execOp]
    go_simp
   ·exact rfl
  ·have y:=(ev 14 rfl (by decide)).trans (hF 4 (by decide) (by simp[Region.binds]))
   have y':=(ev 15 rfl (by decide)).trans (hF 5 (by decide) (by simp[Region.binds]))
   refine tellV (v:=.pointer (some ⟨rb,ro+k,none⟩)) ?_ ?_ ?_ ?_ (relB_refl _ _ _ _) ?_
   ·exact rfl
   ·exact rfl
   ·exact rfl
   ·simp only[execOp]
    go_simp
   ·exact rfl
  ·have y:=(ev 16 rfl (by decide)).trans (hF 6 (by decide) (by simp[Region.binds]))
   refine tellV (v:=.int .i64 x) ?_ ?_ ?_ ?_ (relB_refl _ _ _ _) ?_
   ·exact rfl
   ·exact rfl
   ·exact rfl
   ·simp only[execOp]
    go_simp
   ·exact rfl
  ·have y:=(ev 11 rfl (by decide)).trans (hF 1 (by decide) (by simp[Region.binds]))
   have y':=(ev 17 rfl (by decide)).trans (hF 7 (by decide) (by simp[Region.binds]))
   refine tellC (f:=84) (args:=#[rmv (2*H.half) (.slice a5 (objsP a1 H).length c5),.int .i64 x]) ?_ ?_ ?_ ?_ ((hK4 W hR.1).mono ?_)
   ·exact rfl
   ·exact rfl
   ·exact rfl
   ·simp only[execOp]
    go_simp
   rintro e w' ⟨⟨d,hd,rfl⟩,b'⟩
   have hBs:B<W.heap.size:=by have:=hR.1.size;omega
   exact⟨_,rfl,relB_below b' hBs,d,hd,rfl⟩
  ·obtain⟨d,hd,y0⟩:=hF 8 (by decide) (by simp[Region.binds])
   have y:=(ev 18 rfl (by decide)).trans y0
   refine tellV (v:=pdv d) ?_ ?_ ?_ ?_ (relB_refl _ _ _ _) ?_
   ·exact rfl
   ·exact rfl
   ·exact rfl
   ·simp only[execOp]
    go_simp
   ·exact⟨d,hd,rfl⟩
  ·obtain⟨d,hd,y0⟩:=hF 8 (by decide) (by simp[Region.binds])
   have y:=(ev 18 rfl (by decide)).trans y0
   refine tellV (v:=.bool bA) ?_ ?_ ?_ ?_ (relB_refl _ _ _ _) ?_
   ·exact rfl
   ·exact rfl
   ·exact rfl
   ·simp only[execOp]
    go_simp
   ·exact rfl
  ·obtain⟨d,hd,y0⟩:=hF 9 (by decide) (by simp[Region.binds])
   have y:=(ev 19 rfl (by decide)).trans y0
   obtain⟨d0,q0⟩:=hR.2.2 ⟨pdD,QB⟩
   obtain⟨⟨g0,g1,g2,g3,g4,g5,g6,g7⟩,f0,f1,f2,f3,f4,f5,f6,f7⟩:=pdb_cells q0
   obtain⟨sa,sn,sc,hsv⟩:=hK1 d hd
   have hq:=pdb_set q0 d
   refine tellS (W':=pdSet W B d) ?_ ?_ ?_ ?_ ⟨?_,fun _=>⟨d,hd,hq⟩,fun _=>⟨d,hq⟩⟩ ⟨d,hd,hq⟩
   ·exact rfl
   ·exact rfl
   ·exact rfl
   ·obtain⟨ds',df,dc,dh,dp,dm,du,dl⟩:=d
    simp only at hsv
    subst hsv
    simp only[execOp]
    unfold pdSet
    go_simp
   ·unfold pdSet
    exact (((((((one_ch _ _ 0 _).trans (one_ch _ _ 1 _)).trans (one_ch _ _ 2 _)).trans (one_ch _ _ 3 _)).trans (one_ch _ _ 4 _)).trans (one_ch _ _ 5 _)).trans (one_ch _ _ 6 _)).trans (one_ch _ _ 7 _)
  ·have y:=(ev 20 rfl (by decide)).trans (hF 10 (by decide) (by simp[Region.binds]))
   refine tellV (v:=.bool bA) ?_ ?_ ?_ ?_ (relB_refl _ _ _ _) ?_
   ·exact rfl
   ·exact rfl
   ·exact rfl
   ·simp only[execOp]
    go_simp
   ·exact rfl
 ·intro u W hR hF
  have hu5:u 5 = .bool bA:=hF 12 (by decide)
  obtain⟨d,hd,qB⟩:=hF 11 (by decide)
  have t4:(ovr DRO A0 u).tmps[4]? = some (.pointer (some ⟨B,0,none⟩)):=(ovr_at DRO A0 u 4 (by omega)).trans (congrArg some e4)
  have t5:(ovr DRO A0 u).tmps[5]? = some (.bool bA):=(ovr_at DRO A0 u 5 (by omega)).trans (congrArg some hu5)
  obtain⟨sa,sn,sc,hsv⟩:=hK1 d hd
  have hBE:Below w.heap.size w W:=HBW.out.trans (below_ch hR.1 HBW.out.size (fun k hk=>by simp at hk;omega))
  show _
  refine ‹∀(a:Act) (w:World),Code.wp Tryz.prog Code.ret _ a w→_› (ovr DRO A0 u) W ?_
  obtain⟨ds',df,dc,dh,dp,dm,du,dl⟩:=d
  simp only at hsv
  subst hsv
  go_wp2_with fail
  refine bodyPost_ret (res_pd rfl t4 t5 qB) ed ⟨fun e => ?_,fun e => ?_,hBE⟩
  ·rw[hK3 e _ hd,←HRB.out,e]
  ·obtain⟨i,hi,hp,hdd⟩:=hK2 e _ hd
   exact⟨i,hi,hp,by rw[←hdd,←HRB.out,e]⟩
end Go.Proofs.YtemlagfaaibenaaGreat.hp
