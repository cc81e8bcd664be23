/-
  A region that leaves its order open and whose calls make memory: by the class of the worlds that grow out of one (for seats without graphs). Chapter 9 as the program has it: the numbers of a heap.
-/
import Derived.Test.YtemlagfaaibenaaGreatHeapS5
import Derived.Deep.QuietTactic
import Derived.BigQuiet
import Derived.Test.YtemlagfaaibenaaGreatM8
namespace Go.Proofs.YtemlagfaaibenaaGreat.hp
open Go.RowKit rows heads words walks
def Ext (n:Nat) (w:World):Type:= { w':World // Below n w w' }
def Ext.to {n:Nat} {w:World} (x:Ext n w):World:=x.1
theorem Ext.below {n:Nat} {w:World} (x:Ext n w):Below n w x.to:=x.2
theorem Ext.of {n:Nat} {w w':World} (h:Below n w w'):∃x:Ext n w,w'=x.to:=⟨⟨w',h⟩,rfl⟩
theorem region_grow {P:Program} {id n:Nat} {Q:Exit→Act→World→Prop} {a:Act} {w:World} {l:List Oper} (hm:P.follows .mixedOrders=true) (hB:Region.lexB .any l.toArray=true)
    (h:wpQuiet P l.toArray (fun w'=>∃x:Ext n w,w'=x.to) (fun a'=>∀w',(∃x:Ext n w,w'=x.to)→Q .normal a' w') l a):(Code.region id l.toArray true).wp P Q a w:=
 wp_region_quiet (C:=fun w'=>∃x:Ext n w,w'=x.to) hm hB (Ext.of (Below.refl n w).drew) (by simpa using h)
theorem calls_grow {P:Program} {f:FuncId} {args:Array Value} {n:Nat} {w:World} {x:Ext n w} {v:Value} (hn:n≤w.heap.size)
    (h:Calls P f args x.to fun e w'=>e = .returned v∧Below x.to.heap.size x.to w'):Calls P f args x.to fun e w''=>e = .returned v∧∃y:Ext n w,w''=y.to:=
 h.mono fun _ _ ⟨he,hb⟩=>⟨he,Ext.of (x.below.trans (hb.mono (Nat.le_trans hn x.below.size)))⟩
theorem ext_any (w:World):Nonempty (Ext w.heap.size w):=⟨⟨w,Below.refl _ _⟩⟩
theorem nine_grow {w:World} {b:Nat} {t:TypeId} {c0 c1 c2 c3 c4 c5 c6 c7 c8:Value} (h:Nine w b t c0 c1 c2 c3 c4 c5 c6 c7 c8) :
    ((∀x:Ext w.heap.size w,x.to.cell? ⟨b,0,none⟩=some c0)∧(∀x:Ext w.heap.size w,x.to.cell? ⟨b,1,none⟩=some c1)∧(∀x:Ext w.heap.size w,x.to.cell? ⟨b,2,none⟩=some c2)∧(∀x:Ext w.heap.size w,x.to.cell? ⟨b,3,none⟩=some c3)∧(∀x:Ext w.heap.size w,x.to.cell? ⟨b,4,none⟩=some c4)) ∧
    ((∀x:Ext w.heap.size w,x.to.cell? ⟨b,5,none⟩=some c5)∧(∀x:Ext w.heap.size w,x.to.cell? ⟨b,6,none⟩=some c6)∧(∀x:Ext w.heap.size w,x.to.cell? ⟨b,7,none⟩=some c7)∧(∀x:Ext w.heap.size w,x.to.cell? ⟨b,8,none⟩=some c8)):=by
 obtain⟨⟨k0,k1,k2,k3,k4⟩,⟨k5,k6,k7,k8⟩,_⟩:=nine_cells h
 have hb:=lt_of_block h
 exact⟨⟨fun x=>(x.below.cell (p:=⟨b,0,none⟩) hb).trans k0,fun x=>(x.below.cell (p:=⟨b,1,none⟩) hb).trans k1,fun x=>(x.below.cell (p:=⟨b,2,none⟩) hb).trans k2,fun x=>(x.below.cell (p:=⟨b,3,none⟩) hb).trans k3,fun x=>(x.below.cell (p:=⟨b,4,none⟩) hb).trans k4⟩,fun x=>(x.below.cell (p:=⟨b,5,none⟩) hb).trans k5,fun x=>(x.below.cell (p:=⟨b,6,none⟩) hb).trans k6,fun x=>(x.below.cell (p:=⟨b,7,none⟩) hb).trans k7,fun x=>(x.below.cell (p:=⟨b,8,none⟩) hb).trans k8⟩
theorem cell_grow {w:World} {p:Addr} {v:Value} (h:w.cell? p=some v):∀x:Ext w.heap.size w,x.to.cell? p=some v:=fun x=>(x.below.cell (p:=p) (World.block_lt_of_cell? _ _ h)).trans h
theorem slots_len {H:Hp} {j:Nat} (hc:chunk H.row j≠0):(slotsOf H j).length=(cnS (H.row.getD j 0)).toNat:=by
 have:=chunk_slots hc
 unfold slotsOf
 rw[Int.toNat_natCast,List.length_take,List.length_drop]
 omega
theorem slots_getD {H:Hp} {j:Nat} {k:Nat} (hk:k<(cnS (H.row.getD j 0)).toNat):(slotsOf H j).getD k 0=H.row.getD (j+1+k) 0:=by
 unfold slotsOf
 rw[Int.toNat_natCast]
 generalize (cnS (H.row.getD j 0)).toNat=n at *
 rw[List.getD_eq_getElem?_getD,List.getD_eq_getElem?_getD,List.getElem?_take,if_pos hk,List.getElem?_drop]
theorem chunk_note {xs:List Int} {j:Nat} (hc:chunk xs j≠0) (h7:uF (xs.getD j 0)=7):isA (xs.getD (j+1) 0)=true:=by
 unfold chunk at hc
 split at hc
 ·rw[if_neg (by omega)]at hc
  split at hc
  ·rename_i h
   exact h.2 h7
  ·exact absurd rfl hc
 ·exact absurd rfl hc
theorem notes_of {H:Hp} {ps:List Int} (hp:∀p ∈ ps,∃j:Nat,p=j∧j<H.row.length∧chunk H.row j≠0) (hs:slotsOk H ps=true):Notes H ps:=by
 intro p hpp h7
 obtain⟨j,rfl,hj,hc⟩:=hp p hpp
 rw[Int.toNat_natCast]at h7 ⊢
 have cn:cnS (H.row.getD j 0)=1:=by unfold cnS;rw[if_pos h7]
 have hb:=chunk_slots hc
 rw[cn]at hb
 have hA:=chunk_note hc h7
 refine⟨by omega,hA,?_⟩
 unfold slotsOk at hs
 rw[List.all_eq_true]at hs
 have h1:=hs _ hpp
 have hl:0<(slotsOf H (j:Int)).length:=by rw[slots_len hc,cn];decide
 have h2:=all_at h1 hl
 rw[slots_getD (by rw[cn];decide)]at h2
 unfold wordIn at h2
 rw[show j+1+0=j+1 from rfl,hA]at h2
 simp only[Bool.not_true,Bool.false_or,Bool.and_eq_true,decide_eq_true_eq]at h2
 exact h2.2.1
end Go.Proofs.YtemlagfaaibenaaGreat.hp
namespace Go.Proofs.YtemlagfaaibenaaGreat.hp
open Go.RowKit rows heads words walks region
set_option maxRecDepth 100000
set_option linter.unusedVariables false
set_option linter.unusedSimpArgs false
def sideB (H:Hp):Bool:=(H.side==0 || H.side==1)&&(decide (0≤H.top)&&decide (H.top≤H.half))
def numB (H:Hp):Bool:=(evn 8 200 H.half&&evn 8 400 H.old)&&((H.row.length:Int)==2*H.half+H.old)&&sideB H&&inR 0 65535 H.seed
theorem rowLength_int {x y:Int} (hx:0≤x∧x≤1000) (hy:0≤y∧y≤1000) (w:World) :
    Calls Tryz.prog 70 #[.int .i64 x,.int .i64 y] w fun e w'=>e = .returned (.int .i64 (2*x+y))∧w'=w:=by
 obtain⟨X,rfl⟩:=Int.eq_ofNat_of_zero_le hx.1
 obtain⟨Y,rfl⟩:=Int.eq_ofNat_of_zero_le hy.1
 exact (rowLength_any X Y (2*X+Y) rfl (by omega) w).mono fun e w' ⟨he,hw⟩=>⟨by rw[he];congr 2,hw⟩
set_option maxHeartbeats 4000000 in
theorem sideOk_any {w:World} {vr vo vm vs:Value} {H:Hp} (h:HpAt w vr vo vm vs H) :
    Calls Tryz.prog 116 #[hpv H vr vo vm vs] w fun e w'=>e = .returned (.bool (sideB H))∧Below w.heap.size w w':=by
 obtain⟨a1,c1,a2,c2,a3,c3,a4,c4,e1,e2,e3,e4⟩:=hpAt_slices h
 subst e1 e2 e3 e4
 have B0:Below w.heap.size w (w.alloc (hpb H (.slice a1 H.row.length c1) (.slice a2 H.roots.length c2) (.slice a3 H.mourned.length c3) (.slice a4 H.seen.length c4))):=(Below.refl _ _).alloc (Nat.le_refl _) _
 have T0:=nine_new w H (.slice a1 H.row.length c1) (.slice a2 H.roots.length c2) (.slice a3 H.mourned.length c3) (.slice a4 H.seen.length c4)
 have HB0:Hid _:=B0
 obtain⟨⟨z0,z1,z2,z3,z4⟩,⟨z5,z6,z7,z8⟩,_⟩:=nine_cells T0
 have key:(H.side==0)=true∨((H.side==0)=false∧(H.side==1)=true)∨((H.side==0)=false∧(H.side==1)=false):=by
  cases (H.side==0)<;>cases (H.side==1)<;>simp
 by_cases t1:0≤H.top
 ·by_cases t2:H.top≤H.half
  ·rcases key with k1|⟨k1,k2⟩|⟨k1,k2⟩
   ·skip
    skip
    rw[show sideB H=true by unfold sideB;simp[*]]
    clear B0 T0 h
    go_enter Tryz.func116,Tryz.ntmps116
    go_wp2
    go_ret
    exact⟨rfl,HB0.out⟩
   ·skip
    skip
    rw[show sideB H=true by unfold sideB;simp[*]]
    clear B0 T0 h
    go_enter Tryz.func116,Tryz.ntmps116
    go_wp2
    go_ret
    exact⟨rfl,HB0.out⟩
   ·skip
    skip
    rw[show sideB H=false by unfold sideB;simp[*]]
    clear B0 T0 h
    go_enter Tryz.func116,Tryz.ntmps116
    go_wp2
    go_ret
    exact⟨rfl,HB0.out⟩
  ·rcases key with k1|⟨k1,k2⟩|⟨k1,k2⟩
   ·skip
    skip
    rw[show sideB H=false by unfold sideB;simp[*]]
    clear B0 T0 h
    go_enter Tryz.func116,Tryz.ntmps116
    go_wp2
    go_ret
    exact⟨rfl,HB0.out⟩
   ·skip
    skip
    rw[show sideB H=false by unfold sideB;simp[*]]
    clear B0 T0 h
    go_enter Tryz.func116,Tryz.ntmps116
    go_wp2
    go_ret
    exact⟨rfl,HB0.out⟩
   ·skip
    skip
    rw[show sideB H=false by unfold sideB;simp[*]]
    clear B0 T0 h
    go_enter Tryz.func116,Tryz.ntmps116
    go_wp2
    go_ret
    exact⟨rfl,HB0.out⟩
 ·rcases key with k1|⟨k1,k2⟩|⟨k1,k2⟩
  ·skip
   skip
   rw[show sideB H=false by unfold sideB;simp[*]]
   clear B0 T0 h
   go_enter Tryz.func116,Tryz.ntmps116
   go_wp2
   go_ret
   exact⟨rfl,HB0.out⟩
  ·skip
   skip
   rw[show sideB H=false by unfold sideB;simp[*]]
   clear B0 T0 h
   go_enter Tryz.func116,Tryz.ntmps116
   go_wp2
   go_ret
   exact⟨rfl,HB0.out⟩
  ·skip
   skip
   rw[show sideB H=false by unfold sideB;simp[*]]
   clear B0 T0 h
   go_enter Tryz.func116,Tryz.ntmps116
   go_wp2
   go_ret
   exact⟨rfl,HB0.out⟩
set_option maxHeartbeats 8000000 in
theorem numbersOk_any {w:World} {vr vo vm vs:Value} {H:Hp} (h:HpAt w vr vo vm vs H) :
    Calls Tryz.prog 93 #[hpv H vr vo vm vs] w fun e w'=>e = .returned (.bool (numB H))∧Below w.heap.size w w':=by
 obtain⟨a1,c1,a2,c2,a3,c3,a4,c4,e1,e2,e3,e4⟩:=hpAt_slices h
 subst e1 e2 e3 e4
 have B0:Below w.heap.size w (w.alloc (hpb H (.slice a1 H.row.length c1) (.slice a2 H.roots.length c2) (.slice a3 H.mourned.length c3) (.slice a4 H.seen.length c4))):=(Below.refl _ _).alloc (Nat.le_refl _) _
 have T0:=nine_new w H (.slice a1 H.row.length c1) (.slice a2 H.roots.length c2) (.slice a3 H.mourned.length c3) (.slice a4 H.seen.length c4)
 have HB0:Hid _:=B0
 cases p1:(evn 8 200 H.half&&evn 8 400 H.old)
 ·skip
  skip
  rw[show numB H=false by unfold numB;simp[*]]
  have HSZ:Hid (∀x:Ext (w.alloc (hpb H (.slice a1 H.row.length c1) (.slice a2 H.roots.length c2) (.slice a3 H.mourned.length c3) (.slice a4 H.seen.length c4))).heap.size (w.alloc (hpb H (.slice a1 H.row.length c1) (.slice a2 H.roots.length c2) (.slice a3 H.mourned.length c3) (.slice a4 H.seen.length c4))),Calls Tryz.prog 115 #[.int .i64 H.half,.int .i64 H.old] x.to fun e w''=>e = .returned (.bool false)∧∃y:Ext (w.alloc (hpb H (.slice a1 H.row.length c1) (.slice a2 H.roots.length c2) (.slice a3 H.mourned.length c3) (.slice a4 H.seen.length c4))).heap.size (w.alloc (hpb H (.slice a1 H.row.length c1) (.slice a2 H.roots.length c2) (.slice a3 H.mourned.length c3) (.slice a4 H.seen.length c4))),w''=y.to):=fun x=>calls_grow (Nat.le_refl _) ((sizesOk_any H.half H.old x.to).mono fun e w' ⟨he,hw⟩=>⟨by rw[he,p1],by rw[hw];exact Below.refl _ _⟩)
  obtain⟨⟨z0,z1,z2,z3,z4⟩,⟨z5,z6,z7,z8⟩⟩:=nine_grow T0
  clear B0 T0 h p1
  go_enter Tryz.func93,Tryz.ntmps93
  go_upto_region 1 with fail
  generalize (w.alloc (hpb H (.slice a1 H.row.length c1) (.slice a2 H.roots.length c2) (.slice a3 H.mourned.length c3) (.slice a4 H.seen.length c4)))=X at *
  haveI:=ext_any X
  refine region_grow (n:=X.heap.size) (by kernel_rfl) (by kernel_rfl) ?_
  repeat (go_big_quiet_step ((first|(go_at_call 115;exact HSZ.out _))))
  refine wpQuiet_nil ?_
  intro _ hw'
  obtain⟨x,rfl⟩:=hw'
  have HBE:Hid _:=HB0.out.trans (x.below.mono HB0.out.size)
  clear z0 z1 z2 z3 z4 z5 z6 z7 z8
  generalize x.to=W at *
  clear x this
  go_wp2
  go_ret
  exact⟨rfl,HBE.out⟩
 ·have p1':=p1
  rw[Bool.and_eq_true]at p1'
  have q1:=evn_true p1'.1
  have q2:=evn_true p1'.2
  have hb1:0≤H.half∧H.half≤1000:=⟨by omega,by omega⟩
  have hb2:0≤H.old∧H.old≤1000:=⟨by omega,by omega⟩
  clear p1' q1 q2
  cases p2:((H.row.length:Int)==2*H.half+H.old)
  ·skip
   skip
   rw[show numB H=false by unfold numB;simp[*]]
   have HSZ:Hid (∀x:Ext (w.alloc (hpb H (.slice a1 H.row.length c1) (.slice a2 H.roots.length c2) (.slice a3 H.mourned.length c3) (.slice a4 H.seen.length c4))).heap.size (w.alloc (hpb H (.slice a1 H.row.length c1) (.slice a2 H.roots.length c2) (.slice a3 H.mourned.length c3) (.slice a4 H.seen.length c4))),Calls Tryz.prog 115 #[.int .i64 H.half,.int .i64 H.old] x.to fun e w''=>e = .returned (.bool true)∧∃y:Ext (w.alloc (hpb H (.slice a1 H.row.length c1) (.slice a2 H.roots.length c2) (.slice a3 H.mourned.length c3) (.slice a4 H.seen.length c4))).heap.size (w.alloc (hpb H (.slice a1 H.row.length c1) (.slice a2 H.roots.length c2) (.slice a3 H.mourned.length c3) (.slice a4 H.seen.length c4))),w''=y.to):=fun x=>calls_grow (Nat.le_refl _) ((sizesOk_any H.half H.old x.to).mono fun e w' ⟨he,hw⟩=>⟨by rw[he,p1],by rw[hw];exact Below.refl _ _⟩)
   have HRL:Hid (∀x:Ext (w.alloc (hpb H (.slice a1 H.row.length c1) (.slice a2 H.roots.length c2) (.slice a3 H.mourned.length c3) (.slice a4 H.seen.length c4))).heap.size (w.alloc (hpb H (.slice a1 H.row.length c1) (.slice a2 H.roots.length c2) (.slice a3 H.mourned.length c3) (.slice a4 H.seen.length c4))),Calls Tryz.prog 70 #[.int .i64 H.half,.int .i64 H.old] x.to fun e w''=>e = .returned (.int .i64 (2*H.half+H.old))∧∃y:Ext (w.alloc (hpb H (.slice a1 H.row.length c1) (.slice a2 H.roots.length c2) (.slice a3 H.mourned.length c3) (.slice a4 H.seen.length c4))).heap.size (w.alloc (hpb H (.slice a1 H.row.length c1) (.slice a2 H.roots.length c2) (.slice a3 H.mourned.length c3) (.slice a4 H.seen.length c4))),w''=y.to):=fun x=>calls_grow (Nat.le_refl _) ((rowLength_int hb1 hb2 x.to).mono fun e w' ⟨he,hw⟩=>⟨he,by rw[hw];exact Below.refl _ _⟩)
   obtain⟨⟨z0,z1,z2,z3,z4⟩,⟨z5,z6,z7,z8⟩⟩:=nine_grow T0
   clear B0 T0 h p1
   go_enter Tryz.func93,Tryz.ntmps93
   go_upto_region 1 with fail
   generalize (w.alloc (hpb H (.slice a1 H.row.length c1) (.slice a2 H.roots.length c2) (.slice a3 H.mourned.length c3) (.slice a4 H.seen.length c4)))=X at *
   haveI:=ext_any X
   refine region_grow (n:=X.heap.size) (by kernel_rfl) (by kernel_rfl) ?_
   repeat (go_big_quiet_step ((first|(go_at_call 115;exact HSZ.out _)|(go_at_call 70;exact HRL.out _))))
   refine wpQuiet_nil ?_
   intro _ hw'
   obtain⟨x,rfl⟩:=hw'
   have HBE:Hid _:=HB0.out.trans (x.below.mono HB0.out.size)
   clear z0 z1 z2 z3 z4 z5 z6 z7 z8
   generalize x.to=W at *
   clear x this
   go_wp2
   go_ret
   exact⟨rfl,HBE.out⟩
  ·cases p3:sideB H
   ·skip
    skip
    rw[show numB H=false by unfold numB;simp[*]]
    have HSZ:Hid (∀x:Ext (w.alloc (hpb H (.slice a1 H.row.length c1) (.slice a2 H.roots.length c2) (.slice a3 H.mourned.length c3) (.slice a4 H.seen.length c4))).heap.size (w.alloc (hpb H (.slice a1 H.row.length c1) (.slice a2 H.roots.length c2) (.slice a3 H.mourned.length c3) (.slice a4 H.seen.length c4))),Calls Tryz.prog 115 #[.int .i64 H.half,.int .i64 H.old] x.to fun e w''=>e = .returned (.bool true)∧∃y:Ext (w.alloc (hpb H (.slice a1 H.row.length c1) (.slice a2 H.roots.length c2) (.slice a3 H.mourned.length c3) (.slice a4 H.seen.length c4))).heap.size (w.alloc (hpb H (.slice a1 H.row.length c1) (.slice a2 H.roots.length c2) (.slice a3 H.mourned.length c3) (.slice a4 H.seen.length c4))),w''=y.to):=fun x=>calls_grow (Nat.le_refl _) ((sizesOk_any H.half H.old x.to).mono fun e w' ⟨he,hw⟩=>⟨by rw[he,p1],by rw[hw];exact Below.refl _ _⟩)
    have HRL:Hid (∀x:Ext (w.alloc (hpb H (.slice a1 H.row.length c1) (.slice a2 H.roots.length c2) (.slice a3 H.mourned.length c3) (.slice a4 H.seen.length c4))).heap.size (w.alloc (hpb H (.slice a1 H.row.length c1) (.slice a2 H.roots.length c2) (.slice a3 H.mourned.length c3) (.slice a4 H.seen.length c4))),Calls Tryz.prog 70 #[.int .i64 H.half,.int .i64 H.old] x.to fun e w''=>e = .returned (.int .i64 (2*H.half+H.old))∧∃y:Ext (w.alloc (hpb H (.slice a1 H.row.length c1) (.slice a2 H.roots.length c2) (.slice a3 H.mourned.length c3) (.slice a4 H.seen.length c4))).heap.size (w.alloc (hpb H (.slice a1 H.row.length c1) (.slice a2 H.roots.length c2) (.slice a3 H.mourned.length c3) (.slice a4 H.seen.length c4))),w''=y.to):=fun x=>calls_grow (Nat.le_refl _) ((rowLength_int hb1 hb2 x.to).mono fun e w' ⟨he,hw⟩=>⟨he,by rw[hw];exact Below.refl _ _⟩)
    have HSD:Hid (∀x:Ext (w.alloc (hpb H (.slice a1 H.row.length c1) (.slice a2 H.roots.length c2) (.slice a3 H.mourned.length c3) (.slice a4 H.seen.length c4))).heap.size (w.alloc (hpb H (.slice a1 H.row.length c1) (.slice a2 H.roots.length c2) (.slice a3 H.mourned.length c3) (.slice a4 H.seen.length c4))),Calls Tryz.prog 116 #[hpv H (.slice a1 H.row.length c1) (.slice a2 H.roots.length c2) (.slice a3 H.mourned.length c3) (.slice a4 H.seen.length c4)] x.to fun e w''=>e = .returned (.bool false)∧∃y:Ext (w.alloc (hpb H (.slice a1 H.row.length c1) (.slice a2 H.roots.length c2) (.slice a3 H.mourned.length c3) (.slice a4 H.seen.length c4))).heap.size (w.alloc (hpb H (.slice a1 H.row.length c1) (.slice a2 H.roots.length c2) (.slice a3 H.mourned.length c3) (.slice a4 H.seen.length c4))),w''=y.to):=fun x=>calls_grow (Nat.le_refl _) ((sideOk_any (hpAt_below h (HB0.out.trans (x.below.mono HB0.out.size)))).mono fun e w' ⟨he,hw⟩=>⟨by rw[he,p3],hw⟩)
    obtain⟨⟨z0,z1,z2,z3,z4⟩,⟨z5,z6,z7,z8⟩⟩:=nine_grow T0
    clear B0 T0 h p1
    go_enter Tryz.func93,Tryz.ntmps93
    go_upto_region 1 with fail
    generalize (w.alloc (hpb H (.slice a1 H.row.length c1) (.slice a2 H.roots.length c2) (.slice a3 H.mourned.length c3) (.slice a4 H.seen.length c4)))=X at *
    haveI:=ext_any X
    refine region_grow (n:=X.heap.size) (by kernel_rfl) (by kernel_rfl) ?_
    repeat (go_big_quiet_step ((first|(go_at_call 115;exact HSZ.out _)|(go_at_call 70;exact HRL.out _)|(go_at_call 116;exact HSD.out _))))
    refine wpQuiet_nil ?_
    intro _ hw'
    obtain⟨x,rfl⟩:=hw'
    have HBE:Hid _:=HB0.out.trans (x.below.mono HB0.out.size)
    clear z0 z1 z2 z3 z4 z5 z6 z7 z8
    generalize x.to=W at *
    clear x this
    go_wp2
    go_ret
    exact⟨rfl,HBE.out⟩
   ·skip
    skip
    rw[show numB H=inR 0 65535 H.seed by unfold numB;simp[*]]
    have HSZ:Hid (∀x:Ext (w.alloc (hpb H (.slice a1 H.row.length c1) (.slice a2 H.roots.length c2) (.slice a3 H.mourned.length c3) (.slice a4 H.seen.length c4))).heap.size (w.alloc (hpb H (.slice a1 H.row.length c1) (.slice a2 H.roots.length c2) (.slice a3 H.mourned.length c3) (.slice a4 H.seen.length c4))),Calls Tryz.prog 115 #[.int .i64 H.half,.int .i64 H.old] x.to fun e w''=>e = .returned (.bool true)∧∃y:Ext (w.alloc (hpb H (.slice a1 H.row.length c1) (.slice a2 H.roots.length c2) (.slice a3 H.mourned.length c3) (.slice a4 H.seen.length c4))).heap.size (w.alloc (hpb H (.slice a1 H.row.length c1) (.slice a2 H.roots.length c2) (.slice a3 H.mourned.length c3) (.slice a4 H.seen.length c4))),w''=y.to):=fun x=>calls_grow (Nat.le_refl _) ((sizesOk_any H.half H.old x.to).mono fun e w' ⟨he,hw⟩=>⟨by rw[he,p1],by rw[hw];exact Below.refl _ _⟩)
    have HRL:Hid (∀x:Ext (w.alloc (hpb H (.slice a1 H.row.length c1) (.slice a2 H.roots.length c2) (.slice a3 H.mourned.length c3) (.slice a4 H.seen.length c4))).heap.size (w.alloc (hpb H (.slice a1 H.row.length c1) (.slice a2 H.roots.length c2) (.slice a3 H.mourned.length c3) (.slice a4 H.seen.length c4))),Calls Tryz.prog 70 #[.int .i64 H.half,.int .i64 H.old] x.to fun e w''=>e = .returned (.int .i64 (2*H.half+H.old))∧∃y:Ext (w.alloc (hpb H (.slice a1 H.row.length c1) (.slice a2 H.roots.length c2) (.slice a3 H.mourned.length c3) (.slice a4 H.seen.length c4))).heap.size (w.alloc (hpb H (.slice a1 H.row.length c1) (.slice a2 H.roots.length c2) (.slice a3 H.mourned.length c3) (.slice a4 H.seen.length c4))),w''=y.to):=fun x=>calls_grow (Nat.le_refl _) ((rowLength_int hb1 hb2 x.to).mono fun e w' ⟨he,hw⟩=>⟨he,by rw[hw];exact Below.refl _ _⟩)
    have HSD:Hid (∀x:Ext (w.alloc (hpb H (.slice a1 H.row.length c1) (.slice a2 H.roots.length c2) (.slice a3 H.mourned.length c3) (.slice a4 H.seen.length c4))).heap.size (w.alloc (hpb H (.slice a1 H.row.length c1) (.slice a2 H.roots.length c2) (.slice a3 H.mourned.length c3) (.slice a4 H.seen.length c4))),Calls Tryz.prog 116 #[hpv H (.slice a1 H.row.length c1) (.slice a2 H.roots.length c2) (.slice a3 H.mourned.length c3) (.slice a4 H.seen.length c4)] x.to fun e w''=>e = .returned (.bool true)∧∃y:Ext (w.alloc (hpb H (.slice a1 H.row.length c1) (.slice a2 H.roots.length c2) (.slice a3 H.mourned.length c3) (.slice a4 H.seen.length c4))).heap.size (w.alloc (hpb H (.slice a1 H.row.length c1) (.slice a2 H.roots.length c2) (.slice a3 H.mourned.length c3) (.slice a4 H.seen.length c4))),w''=y.to):=fun x=>calls_grow (Nat.le_refl _) ((sideOk_any (hpAt_below h (HB0.out.trans (x.below.mono HB0.out.size)))).mono fun e w' ⟨he,hw⟩=>⟨by rw[he,p3],hw⟩)
    have HHS:Hid (∀x:Ext (w.alloc (hpb H (.slice a1 H.row.length c1) (.slice a2 H.roots.length c2) (.slice a3 H.mourned.length c3) (.slice a4 H.seen.length c4))).heap.size (w.alloc (hpb H (.slice a1 H.row.length c1) (.slice a2 H.roots.length c2) (.slice a3 H.mourned.length c3) (.slice a4 H.seen.length c4))),Calls Tryz.prog 117 #[.int .i64 H.seed] x.to fun e w''=>e = .returned (.bool (inR 0 65535 H.seed))∧∃y:Ext (w.alloc (hpb H (.slice a1 H.row.length c1) (.slice a2 H.roots.length c2) (.slice a3 H.mourned.length c3) (.slice a4 H.seen.length c4))).heap.size (w.alloc (hpb H (.slice a1 H.row.length c1) (.slice a2 H.roots.length c2) (.slice a3 H.mourned.length c3) (.slice a4 H.seen.length c4))),w''=y.to):=fun x=>calls_grow (Nat.le_refl _) ((hashInRange_any H.seed x.to).mono fun e w' ⟨he,hw⟩=>⟨he,by rw[hw];exact Below.refl _ _⟩)
    obtain⟨⟨z0,z1,z2,z3,z4⟩,⟨z5,z6,z7,z8⟩⟩:=nine_grow T0
    clear B0 T0 h p1
    generalize inR 0 65535 H.seed=sb at *
    go_enter Tryz.func93,Tryz.ntmps93
    go_upto_region 1 with fail
    generalize (w.alloc (hpb H (.slice a1 H.row.length c1) (.slice a2 H.roots.length c2) (.slice a3 H.mourned.length c3) (.slice a4 H.seen.length c4)))=X at *
    haveI:=ext_any X
    refine region_grow (n:=X.heap.size) (by kernel_rfl) (by kernel_rfl) ?_
    repeat (go_big_quiet_step ((first|(go_at_call 115;exact HSZ.out _)|(go_at_call 70;exact HRL.out _)|(go_at_call 116;exact HSD.out _)|(go_at_call 117;exact HHS.out _))))
    refine wpQuiet_nil ?_
    intro _ hw'
    obtain⟨x,rfl⟩:=hw'
    have HBE:Hid _:=HB0.out.trans (x.below.mono HB0.out.size)
    clear z0 z1 z2 z3 z4 z5 z6 z7 z8
    generalize x.to=W at *
    clear x this
    go_wp2
    go_ret
    exact⟨rfl,HBE.out⟩
end Go.Proofs.YtemlagfaaibenaaGreat.hp
