/-
  Chapter 15 as the program has it: free chunks upstairs are made one.
  Made from the template SwpI4 (mkswpi4.py).
-/
import Derived.Test.YtemlagfaaibenaaGreatM2
import Derived.Test.YtemlagfaaibenaaGreatCoalI
import Derived.Test.YtemlagfaaibenaaGreatM10
import Derived.Test.YtemlagfaaibenaaGreatM5
import Derived.Test.YtemlagfaaibenaaGreatM12
namespace Go.Proofs.YtemlagfaaibenaaGreat.hp
open Go.RowKit rows heads words walks region
set_option maxRecDepth 100000
set_option linter.unusedVariables false
set_option linter.unusedSimpArgs false
def dC0 (k:Nat):Nat:=match k with
 |0=>3
 |1=>4
 |2=>5
 |3=>6
 |4=>7
 |5=>8
 |6=>9
 |7=>10
 |8=>11
 |9=>12
 |10=>13
 |11=>14
 |12=>15
 |13=>16
 |14=>17
 |15=>18
 |16=>19
 |17=>20
 |18=>21
 |19=>22
 |20=>2
 |21=>23
 |22=>24
 |23=>25
 |24=>26
 |_=>2000
theorem dC0_inj:∀k,k<25→∀j,j<25→dC0 j=dC0 k→j=k:=by decide
def DC0 (s:Nat):Bool:=s==2 || s==3 || s==4 || s==5 || s==6 || s==7 || s==8 || s==9 || s==10 || s==11 || s==12 || s==13 || s==14 || s==15 || s==16 || s==17 || s==18 || s==19 || s==20 || s==21 || s==22 || s==23 || s==24 || s==25 || s==26
def FC0 (P:Nat) (ar:Option Addr) (nr cr:Nat) (half old:Int) (k:Nat) (t:Value):Prop:=
 match k with
 |0=>t = .pointer (some ⟨P,0,none⟩)
 |1=>t = .pointer (some ⟨P,0,none⟩)
 |2=>t = .pointer (some ⟨P,0,none⟩)
 |3=>t = .pointer (some ⟨P,2,none⟩)
 |4=>t = .slice ar nr cr
 |5=>t = .pointer (some ⟨P,0,none⟩)
 |6=>t = .pointer (some ⟨P,0,none⟩)
 |7=>t = .pointer (some ⟨P,0,none⟩)
 |8=>t = .int .i64 half
 |9=>t = .int .i64 (2*half)
 |10=>t = .pointer (some ⟨P,0,none⟩)
 |11=>t = .pointer (some ⟨P,0,none⟩)
 |12=>t = .pointer (some ⟨P,0,none⟩)
 |13=>t = .int .i64 half
 |14=>t = .pointer (some ⟨P,0,none⟩)
 |15=>t = .pointer (some ⟨P,0,none⟩)
 |16=>t = .pointer (some ⟨P,1,none⟩)
 |17=>t = .int .i64 old
 |18=>t = .int .i64 (2*half+old)
 |19=>True
 |20=>∃v b,t = .tuple #[v,.bool b]
 |21=>True
 |22=>True
 |23=>t = .pointer (some ⟨P,0,none⟩)
 |24=>t = .pointer (some ⟨P,2,none⟩)
 |_=>False
theorem lastE {P:Program} {o:Oper} {D:Nat→Bool} {a0:Act} {u:Nat→Value} {W W':World} {Q:Exit→Act→World→Prop} {AE:World→Prop} (hd:o.dst=none) (hrun:(execOp (ovr D a0 u).eval o).run P W = .ok .skip W') (hA:AE W') :
    o.wp P (ovr D a0 u) W (fun a' W'=>∃u',a'=ovr D a0 u'∧u'=u∧AE W') Q:=wp_skipped hrun ⟨u,put_no hd u undef,rfl,hA⟩
def CoA (w:World) (P:Nat) (c0 c1 c3 c4 c5 c6 c7 c8:Value) (ys:List Int) (e:Ending) (w':World):Prop:=∃va vn vc,e = .returned (.tuple #[])∧rows.Own w' w.heap.size (.slice va vn vc) ys∧Nine w' P 27 c0 c1 (.slice va vn vc) c3 c4 c5 c6 c7 c8∧Ch [P] w w'
set_option maxHeartbeats 16000000 in
theorem coalesceUp_any {w:World} {P:Nat} {half old side top seed:Int} {ar:Option Addr} {nr cr:Nat} {vo vm vs:Value} {xs:List Int} (hT:Nine w P 27 (.int .i64 half) (.int .i64 old) (.slice ar nr cr) (.int .i64 side) (.int .i64 top) vo vm vs (.int .i64 seed)) (hx:IntsAt w (.slice ar nr cr) xs) (hl:xs.length≤1000) (ha:AllI xs) (h1:0≤half∧half≤200) (h2:0≤old∧old≤400) :
    Calls Tryz.prog 72 #[.pointer (some ⟨P,0,none⟩)] w fun e w'=>CoA w P (.int .i64 half) (.int .i64 old) (.int .i64 side) (.int .i64 top) vo vm vs (.int .i64 seed) (coal xs (2*half) (2*half+old)) e w':=by
 have HT:Hid _:=hT
 have hPw:=lt_of_block hT
 have HRL:Hid (∀V,Calls Tryz.prog 70 #[.int .i64 half,.int .i64 old] V fun e w'=>e = .returned (.int .i64 (2*half+old))∧w'=V):=fun V=>by
  exact rowLength_int ⟨h1.1,by omega⟩ ⟨h2.1,by omega⟩ V
 have HCO:Hid (∀V,Below w.heap.size w V→Calls Tryz.prog 102 #[.slice ar nr cr,.int .i64 (2*half),.int .i64 (2*half+old)] V fun e w'=>∃va vn vc b,e = .returned (.tuple #[.slice va vn vc,.bool b])∧rows.Own w' V.heap.size (.slice va vn vc) (coal xs (2*half) (2*half+old))∧Below V.heap.size V w'):=fun V hV=>(implCoalesced V _ xs (2*half) (2*half+old) (intsAt_below hx hV) (by omega) ha ⟨by omega,by omega⟩ ⟨by omega,by omega⟩).mono (fun e w' ⟨v',he,ho,hb⟩=>by
  obtain⟨va,vn,vc,rfl⟩:=ints_slice (own_ints ho)
  exact⟨va,vn,vc,_,he,ho,hb⟩)
 clear hT hx ha
 obtain⟨VD,hVD⟩:∃VD,VD=w.drew:=⟨_,rfl⟩
 have BVD:Below w.heap.size w VD:=by rw[hVD];exact (Below.refl _ _).drew
 go_enter Tryz.func72,Tryz.ntmps72
 go_upto_region 0 with fail
 generalize hA0:(Act.mk _ [])=A0
 have e0:A0.tmps.getD 0 undef = .pointer (some ⟨P,0,none⟩):=by rw[←hA0];rfl
 have sz:A0.tmps.size=27:=by rw[←hA0];rfl
 refine wp_region_fourE (by kernel_rfl) DC0 (by simp) ?_ 25 4 19 20 21 rfl (by decide) (by decide) (by decide) (by decide) (by decide) (by decide) (by decide) (by decide) (by decide) (by decide) dC0 dC0_inj (FC0 P ar nr cr half old) (fun V=>V=VD) (fun t V=>t = .slice ar nr cr∧V=VD) (fun t V=>∃va vn vc b,t = .tuple #[.slice va vn vc,.bool b]∧rows.Own V w.heap.size (.slice va vn vc) (coal xs (2*half) (2*half+old))∧Below w.heap.size w V) (fun t V=>∃va vn vc b,t = .tuple #[.slice va vn vc,.bool b]∧rows.Own V w.heap.size (.slice va vn vc) (coal xs (2*half) (2*half+old))∧Below w.heap.size w V) (fun t V=>∃va vn vc,t = .slice va vn vc∧rows.Own V w.heap.size (.slice va vn vc) (coal xs (2*half) (2*half+old))∧Below w.heap.size w V) (hVD.symm) (fun V=>∃va vn vc,rows.Own V w.heap.size (.slice va vn vc) (coal xs (2*half) (2*half+old))∧Nine V P 27 (.int .i64 half) (.int .i64 old) (.slice va vn vc) (.int .i64 side) (.int .i64 top) vo vm vs (.int .i64 seed)∧Ch [P] w V) ?_ ?_ ?_ ?_ ?_ ?_ ?_ ?_ ?_ ?_ ?_
 ·intro k o ho
  have hk:k<26:=(Array.getElem?_eq_some_iff.1 ho).1
  rcases (show k=0∨k=1∨k=2∨k=3∨k=4∨k=5∨k=6∨k=7∨k=8∨k=9∨k=10∨k=11∨k=12∨k=13∨k=14∨k=15∨k=16∨k=17∨k=18∨k=19∨k=20∨k=21∨k=22∨k=23∨k=24∨k=25 by omega) with rfl|rfl|rfl|rfl|rfl|rfl|rfl|rfl|rfl|rfl|rfl|rfl|rfl|rfl|rfl|rfl|rfl|rfl|rfl|rfl|rfl|rfl|rfl|rfl|rfl|rfl<;>(obtain rfl:=Option.some.inj ho;simp[Region.binds])
 ·rintro u V ⟨va,vn,vc,h1,h2,h3⟩
  have H1:Hid _:=h1
  have H2:Hid _:=h2
  have H3:Hid _:=h3
  clear h1 h2 h3 e0 sz
  subst hA0
  simp[ovr,DC0,List.range,List.range.loop]
  go_wp2
  go_end0
  exact⟨_,_,_,rfl,H1.out,H2.out,H3.out⟩
 ·intro o ho
  obtain rfl:=Option.some.inj ho
  simp[Region.binds]
 ·intro o ho
  obtain rfl:=Option.some.inj ho
  simp[Region.binds]
 ·intro o ho
  obtain rfl:=Option.some.inj ho
  simp[Region.binds]
 ·intro o ho
  obtain rfl:=Option.some.inj ho
  simp[Region.binds]
 ·intro k o u W hk hk1 hk2 hk3 hk4 ho hAB hF
  have ev:∀s,DC0 s=true→s<27→(ovr DC0 A0 u).tmps[s]?.getD undef=u s:=fun s h1 h2=>(getD_at _ _).symm.trans (eval_in h1 (by omega))
  have o0:(ovr DC0 A0 u).tmps[0]?.getD undef=_:=(getD_at _ _).symm.trans ((eval_out (D:=DC0) (a0:=A0) (u:=u) (s:=0) rfl (by omega)).trans e0)
  have hB:W.cell? ⟨P,0,none⟩=some (.int .i64 half)∧W.cell? ⟨P,1,none⟩=some (.int .i64 old):=by
   have K:∀W,Below w.heap.size w W→W.cell? ⟨P,0,none⟩=some (.int .i64 half)∧W.cell? ⟨P,1,none⟩=some (.int .i64 old):=fun W hb=>by
    obtain⟨⟨z0,z1,z2,z3,z4⟩,_,_⟩:=nine_cells (nine_below HT.out hb)
    exact⟨z0,z1⟩
   rcases hAB with e|e|⟨_,_,_,_,_,_,e⟩|⟨_,_,_,_,_,_,e⟩|⟨_,_,_,_,_,e⟩|⟨_,_,_,_,e,_⟩
   ·rw[e];exact K _ BVD
   ·rw[e.2];exact K _ BVD
   ·exact K _ e
   ·exact K _ e
   ·exact K _ e
   ·obtain⟨⟨z0,z1,z2,z3,z4⟩,_,_⟩:=nine_cells e
    exact⟨z0,z1⟩
  obtain⟨z0,z1⟩:=hB
  clear hAB
  rcases (show k=0∨k=1∨k=2∨k=3∨k=4∨k=5∨k=6∨k=7∨k=8∨k=9∨k=10∨k=11∨k=12∨k=13∨k=14∨k=15∨k=16∨k=17∨k=18∨k=19∨k=20∨k=21∨k=22∨k=23∨k=24 by omega) with rfl|rfl|rfl|rfl|rfl|rfl|rfl|rfl|rfl|rfl|rfl|rfl|rfl|rfl|rfl|rfl|rfl|rfl|rfl|rfl|rfl|rfl|rfl|rfl|rfl
  all_goals obtain rfl:=Option.some.inj ho
  ·refine onceV (v:=.pointer (some ⟨P,0,none⟩)) rfl rfl ?_ rfl
   simp only[execOp]
   go_simp
   try go_num
   try (rw[IntKind.wrap_i64];omega)
  ·refine onceV (v:=.pointer (some ⟨P,0,none⟩)) rfl rfl ?_ rfl
   simp only[execOp]
   go_simp
   try go_num
   try (rw[IntKind.wrap_i64];omega)
  ·have x1:=(ev 4 rfl (by decide)).trans (hF 1 (by decide) (by simp[Region.binds]))
   refine onceV (v:=.pointer (some ⟨P,0,none⟩)) rfl rfl ?_ rfl
   simp only[execOp]
   go_simp
   try go_num
   try (rw[IntKind.wrap_i64];omega)
  ·have x2:=(ev 5 rfl (by decide)).trans (hF 2 (by decide) (by simp[Region.binds]))
   refine onceV (v:=.pointer (some ⟨P,2,none⟩)) rfl rfl ?_ rfl
   simp only[execOp]
   go_simp
   try go_num
   try (rw[IntKind.wrap_i64];omega)
  ·exact absurd rfl hk1
  ·refine onceV (v:=.pointer (some ⟨P,0,none⟩)) rfl rfl ?_ rfl
   simp only[execOp]
   go_simp
   try go_num
   try (rw[IntKind.wrap_i64];omega)
  ·have x5:=(ev 8 rfl (by decide)).trans (hF 5 (by decide) (by simp[Region.binds]))
   refine onceV (v:=.pointer (some ⟨P,0,none⟩)) rfl rfl ?_ rfl
   simp only[execOp]
   go_simp
   try go_num
   try (rw[IntKind.wrap_i64];omega)
  ·have x6:=(ev 9 rfl (by decide)).trans (hF 6 (by decide) (by simp[Region.binds]))
   refine onceV (v:=.pointer (some ⟨P,0,none⟩)) rfl rfl ?_ rfl
   simp only[execOp]
   go_simp
   try go_num
   try (rw[IntKind.wrap_i64];omega)
  ·have x7:=(ev 10 rfl (by decide)).trans (hF 7 (by decide) (by simp[Region.binds]))
   refine onceV (v:=.int .i64 half) rfl rfl ?_ rfl
   simp only[execOp]
   go_simp
   try go_num
   try (rw[IntKind.wrap_i64];omega)
  ·have x8:=(ev 11 rfl (by decide)).trans (hF 8 (by decide) (by simp[Region.binds]))
   refine onceV (v:=.int .i64 (2*half)) rfl rfl ?_ rfl
   simp only[execOp]
   go_simp
   try go_num
   try (rw[IntKind.wrap_i64];omega)
  ·refine onceV (v:=.pointer (some ⟨P,0,none⟩)) rfl rfl ?_ rfl
   simp only[execOp]
   go_simp
   try go_num
   try (rw[IntKind.wrap_i64];omega)
  ·have x10:=(ev 13 rfl (by decide)).trans (hF 10 (by decide) (by simp[Region.binds]))
   refine onceV (v:=.pointer (some ⟨P,0,none⟩)) rfl rfl ?_ rfl
   simp only[execOp]
   go_simp
   try go_num
   try (rw[IntKind.wrap_i64];omega)
  ·have x11:=(ev 14 rfl (by decide)).trans (hF 11 (by decide) (by simp[Region.binds]))
   refine onceV (v:=.pointer (some ⟨P,0,none⟩)) rfl rfl ?_ rfl
   simp only[execOp]
   go_simp
   try go_num
   try (rw[IntKind.wrap_i64];omega)
  ·have x12:=(ev 15 rfl (by decide)).trans (hF 12 (by decide) (by simp[Region.binds]))
   refine onceV (v:=.int .i64 half) rfl rfl ?_ rfl
   simp only[execOp]
   go_simp
   try go_num
   try (rw[IntKind.wrap_i64];omega)
  ·refine onceV (v:=.pointer (some ⟨P,0,none⟩)) rfl rfl ?_ rfl
   simp only[execOp]
   go_simp
   try go_num
   try (rw[IntKind.wrap_i64];omega)
  ·have x14:=(ev 17 rfl (by decide)).trans (hF 14 (by decide) (by simp[Region.binds]))
   refine onceV (v:=.pointer (some ⟨P,0,none⟩)) rfl rfl ?_ rfl
   simp only[execOp]
   go_simp
   try go_num
   try (rw[IntKind.wrap_i64];omega)
  ·have x15:=(ev 18 rfl (by decide)).trans (hF 15 (by decide) (by simp[Region.binds]))
   refine onceV (v:=.pointer (some ⟨P,1,none⟩)) rfl rfl ?_ rfl
   simp only[execOp]
   go_simp
   try go_num
   try (rw[IntKind.wrap_i64];omega)
  ·have x16:=(ev 19 rfl (by decide)).trans (hF 16 (by decide) (by simp[Region.binds]))
   refine onceV (v:=.int .i64 old) rfl rfl ?_ rfl
   simp only[execOp]
   go_simp
   try go_num
   try (rw[IntKind.wrap_i64];omega)
  ·have x13:=(ev 16 rfl (by decide)).trans (hF 13 (by decide) (by simp[Region.binds]))
   have x17:=(ev 20 rfl (by decide)).trans (hF 17 (by decide) (by simp[Region.binds]))
   refine onceC (f:=70) (args:=#[.int .i64 half,.int .i64 old]) (B:=fun V=>V=W) rfl rfl ?_ ?_
   ·simp only[execOp]
    go_simp
   ·exact (HRL.out W).mono fun e w' ⟨he,hw⟩=>⟨_,he,hw,rfl⟩
  ·exact absurd rfl hk2
  ·exact absurd rfl hk3
  ·exact absurd rfl hk4
  ·obtain⟨v9,b9,hv9⟩:=hF 20 (by decide) (by simp[Region.binds])
   have x20:=(ev 2 rfl (by decide)).trans hv9
   refine onceV (v:=.bool b9) rfl rfl ?_ trivial
   simp only[execOp]
   go_simp
  ·have x0:=(ev 3 rfl (by decide)).trans (hF 0 (by decide) (by simp[Region.binds]))
   refine onceV (v:=.pointer (some ⟨P,0,none⟩)) rfl rfl ?_ rfl
   simp only[execOp]
   go_simp
   try go_num
   try (rw[IntKind.wrap_i64];omega)
  ·have x23:=(ev 25 rfl (by decide)).trans (hF 23 (by decide) (by simp[Region.binds]))
   refine onceV (v:=.pointer (some ⟨P,2,none⟩)) rfl rfl ?_ rfl
   simp only[execOp]
   go_simp
   try go_num
   try (rw[IntKind.wrap_i64];omega)
 ·intro o u W ho hA hF
  obtain rfl:=Option.some.inj ho
  have ev:∀s,DC0 s=true→s<27→(ovr DC0 A0 u).tmps[s]?.getD undef=u s:=fun s h1 h2=>(getD_at _ _).symm.trans (eval_in h1 (by omega))
  have o0:(ovr DC0 A0 u).tmps[0]?.getD undef=_:=(getD_at _ _).symm.trans ((eval_out (D:=DC0) (a0:=A0) (u:=u) (s:=0) rfl (by omega)).trans e0)
  have x3:=(ev 6 rfl (by decide)).trans (hF 3 (by decide) (by simp[Region.binds]))
  have hA1:W=VD:=hA
  obtain⟨⟨_,_,z2,_,_⟩,_,_⟩:=nine_cells (nine_below HT.out BVD)
  rw[←hA1]at z2
  refine threeW (v:=.slice ar nr cr) (W':=W) rfl rfl ?_ ⟨rfl,hA1⟩ rfl
  clear hA hA1 hVD BVD
  simp only[execOp]
  go_simp
 ·intro o u W ho hA hF
  obtain rfl:=Option.some.inj ho
  have ev:∀s,DC0 s=true→s<27→(ovr DC0 A0 u).tmps[s]?.getD undef=u s:=fun s h1 h2=>(getD_at _ _).symm.trans (eval_in h1 (by omega))
  have o0:(ovr DC0 A0 u).tmps[0]?.getD undef=_:=(getD_at _ _).symm.trans ((eval_out (D:=DC0) (a0:=A0) (u:=u) (s:=0) rfl (by omega)).trans e0)
  have x4:=(ev 7 rfl (by decide)).trans (hF 4 (by decide) (by simp[Region.binds]))
  have x9:=(ev 12 rfl (by decide)).trans (hF 9 (by decide) (by simp[Region.binds]))
  have x18:=(ev 21 rfl (by decide)).trans (hF 18 (by decide) (by simp[Region.binds]))
  obtain⟨qv,qw⟩:=hA
  subst qw
  refine threeC (f:=102) (args:=#[.slice ar nr cr,.int .i64 (2*half),.int .i64 (2*half+old)]) rfl rfl ?_ ?_
  ·simp only[execOp]
   go_simp
  ·exact (HCO.out W BVD).mono fun e w' ⟨va,vn,vc,b,he,ho,hb⟩=>⟨_,he,⟨va,vn,vc,b,rfl,own_base ho BVD.size,BVD.trans (hb.mono BVD.size)⟩,trivial⟩
 ·intro o u W ho hA hF
  obtain rfl:=Option.some.inj ho
  have ev:∀s,DC0 s=true→s<27→(ovr DC0 A0 u).tmps[s]?.getD undef=u s:=fun s h1 h2=>(getD_at _ _).symm.trans (eval_in h1 (by omega))
  have o0:(ovr DC0 A0 u).tmps[0]?.getD undef=_:=(getD_at _ _).symm.trans ((eval_out (D:=DC0) (a0:=A0) (u:=u) (s:=0) rfl (by omega)).trans e0)
  obtain⟨va,vn,vc,b,q1,q2,q3⟩:=hA
  have x19:=(ev 22 rfl (by decide)).trans q1
  refine threeW (v:=.tuple #[.slice va vn vc,.bool b]) (W':=W) rfl rfl ?_ ⟨va,vn,vc,b,rfl,q2,q3⟩ ⟨_,_,rfl⟩
  simp only[execOp]
  go_simp
 ·intro o u W ho hA hF
  obtain rfl:=Option.some.inj ho
  have ev:∀s,DC0 s=true→s<27→(ovr DC0 A0 u).tmps[s]?.getD undef=u s:=fun s h1 h2=>(getD_at _ _).symm.trans (eval_in h1 (by omega))
  have o0:(ovr DC0 A0 u).tmps[0]?.getD undef=_:=(getD_at _ _).symm.trans ((eval_out (D:=DC0) (a0:=A0) (u:=u) (s:=0) rfl (by omega)).trans e0)
  obtain⟨va,vn,vc,b,q1,q2,q3⟩:=hA
  have x20:=(ev 2 rfl (by decide)).trans q1
  refine threeW (v:=.slice va vn vc) (W':=W) rfl rfl ?_ ⟨va,vn,vc,rfl,q2,q3⟩ trivial
  simp only[execOp]
  go_simp
 ·intro o u W ho hA hF
  obtain rfl:=Option.some.inj ho
  have ev:∀s,DC0 s=true→s<27→(ovr DC0 A0 u).tmps[s]?.getD undef=u s:=fun s h1 h2=>(getD_at _ _).symm.trans (eval_in h1 (by omega))
  have o0:(ovr DC0 A0 u).tmps[0]?.getD undef=_:=(getD_at _ _).symm.trans ((eval_out (D:=DC0) (a0:=A0) (u:=u) (s:=0) rfl (by omega)).trans e0)
  obtain⟨va,vn,vc,q1,q2,q3⟩:=hA
  have x21:=(ev 23 rfl (by decide)).trans q1
  have x24:=(ev 26 rfl (by decide)).trans (hF 24 (by decide) (by simp[Region.binds]))
  have N9:=nine_below HT.out q3
  obtain⟨⟨_,_,z2,_,_⟩,_,zf⟩:=nine_cells N9
  have zf2:=zf 2
  refine lastE (W':=W.setCell ⟨P,2,none⟩ (.slice va vn vc)) rfl ?_ ⟨va,vn,vc,row_ch q2 (one_ch W P 2 (.slice va vn vc)) (fun z hz e=>by have:=(blk_lt q2 z hz).1;have e2:z=P:=(by simpa using e);omega),nine_set2 N9 (.slice va vn vc),(ch_below q3).trans (one_ch _ _ _ _)⟩
  simp only[execOp]
  go_simp
end Go.Proofs.YtemlagfaaibenaaGreat.hp
