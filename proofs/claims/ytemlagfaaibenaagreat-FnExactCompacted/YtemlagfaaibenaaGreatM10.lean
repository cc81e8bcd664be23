/-
  A region that leaves its order open and whose calls make memory: by the class of the worlds that grow out of one (for seats without graphs). Chapter 9 as the program has it: the numbers of a heap. Chapter 9 as the program has it: the first free chunk; a chunk stored into a row. Chapter 9 as the prog
-/
import Derived.Test.YtemlagfaaibenaaGreatHeapS5
import Derived.Deep.QuietTactic
import Derived.BigQuiet
import Derived.Test.YtemlagfaaibenaaGreatM8
import Derived.Test.YtemlagfaaibenaaGreatHeapI3
import Derived.Test.YtemlagfaaibenaaGreatM1
import Derived.Lib.AppendZerosOnto
import Derived.Laws.AppendOwnNone
namespace Go.Proofs.YtemlagfaaibenaaGreat.hp
open Go.RowKit rows heads words walks
def Ext (n:Nat) (w:World):Type:= { w':World // Below n w w' }
def Ext.to {n:Nat} {w:World} (x:Ext n w):World:=x.1
theorem Ext.below {n:Nat} {w:World} (x:Ext n w):Below n w x.to:=x.2
theorem Ext.of {n:Nat} {w w':World} (h:Below n w w'):∃x:Ext n w,w'=x.to:=⟨⟨w',h⟩,rfl⟩
theorem region_grow {P:Program} {id n:Nat} {Q:Exit→Act→World→Prop} {a:Act} {w:World} {l:List Oper} (hm:P.follows .mixedOrders=true) (hB:Region.lexB .any l.toArray=true)
    (h:wpQuiet P l.toArray (fun w'=>∃x:Ext n w,w'=x.to) (fun a'=>∀w',(∃x:Ext n w,w'=x.to)→Q .normal a' w') l a):(Code.region id l.toArray true).wp P Q a w:=
 wp_region_quiet (C:=fun w'=>∃x:Ext n w,w'=x.to) hm hB (Ext.of (Below.refl n w).drew) (by simpa using h)
theorem calls_grow {P:Program} {f:FuncId} {args:Array Value} {n:Nat} {w:World} {x:Ext n w} {v:Value} (hn:n≤w.heap.size)
    (h:Calls P f args x.to fun e w'=>e = .returned v∧Below x.to.heap.size x.to w'):Calls P f args x.to fun e w''=>e = .returned v∧∃y:Ext n w,w''=y.to:=
 h.mono fun _ _ ⟨he,hb⟩=>⟨he,Ext.of (x.below.trans (hb.mono (Nat.le_trans hn x.below.size)))⟩
theorem ext_any (w:World):Nonempty (Ext w.heap.size w):=⟨⟨w,Below.refl _ _⟩⟩
theorem nine_grow {w:World} {b:Nat} {t:TypeId} {c0 c1 c2 c3 c4 c5 c6 c7 c8:Value} (h:Nine w b t c0 c1 c2 c3 c4 c5 c6 c7 c8) :
    ((∀x:Ext w.heap.size w,x.to.cell? ⟨b,0,none⟩=some c0)∧(∀x:Ext w.heap.size w,x.to.cell? ⟨b,1,none⟩=some c1)∧(∀x:Ext w.heap.size w,x.to.cell? ⟨b,2,none⟩=some c2)∧(∀x:Ext w.heap.size w,x.to.cell? ⟨b,3,none⟩=some c3)∧(∀x:Ext w.heap.size w,x.to.cell? ⟨b,4,none⟩=some c4)) ∧
    ((∀x:Ext w.heap.size w,x.to.cell? ⟨b,5,none⟩=some c5)∧(∀x:Ext w.heap.size w,x.to.cell? ⟨b,6,none⟩=some c6)∧(∀x:Ext w.heap.size w,x.to.cell? ⟨b,7,none⟩=some c7)∧(∀x:Ext w.heap.size w,x.to.cell? ⟨b,8,none⟩=some c8)):=by
 obtain⟨⟨k0,k1,k2,k3,k4⟩,⟨k5,k6,k7,k8⟩,_⟩:=nine_cells h
 have hb:=lt_of_block h
 exact⟨⟨fun x=>(x.below.cell (p:=⟨b,0,none⟩) hb).trans k0,fun x=>(x.below.cell (p:=⟨b,1,none⟩) hb).trans k1,fun x=>(x.below.cell (p:=⟨b,2,none⟩) hb).trans k2,fun x=>(x.below.cell (p:=⟨b,3,none⟩) hb).trans k3,fun x=>(x.below.cell (p:=⟨b,4,none⟩) hb).trans k4⟩,fun x=>(x.below.cell (p:=⟨b,5,none⟩) hb).trans k5,fun x=>(x.below.cell (p:=⟨b,6,none⟩) hb).trans k6,fun x=>(x.below.cell (p:=⟨b,7,none⟩) hb).trans k7,fun x=>(x.below.cell (p:=⟨b,8,none⟩) hb).trans k8⟩
theorem cell_grow {w:World} {p:Addr} {v:Value} (h:w.cell? p=some v):∀x:Ext w.heap.size w,x.to.cell? p=some v:=fun x=>(x.below.cell (p:=p) (World.block_lt_of_cell? _ _ h)).trans h
theorem slots_len {H:Hp} {j:Nat} (hc:chunk H.row j≠0):(slotsOf H j).length=(cnS (H.row.getD j 0)).toNat:=by
 have:=chunk_slots hc
 unfold slotsOf
 rw[Int.toNat_natCast,List.length_take,List.length_drop]
 omega
theorem slots_getD {H:Hp} {j:Nat} {k:Nat} (hk:k<(cnS (H.row.getD j 0)).toNat):(slotsOf H j).getD k 0=H.row.getD (j+1+k) 0:=by
 unfold slotsOf
 rw[Int.toNat_natCast]
 generalize (cnS (H.row.getD j 0)).toNat=n at *
 rw[List.getD_eq_getElem?_getD,List.getD_eq_getElem?_getD,List.getElem?_take,if_pos hk,List.getElem?_drop]
theorem chunk_note {xs:List Int} {j:Nat} (hc:chunk xs j≠0) (h7:uF (xs.getD j 0)=7):isA (xs.getD (j+1) 0)=true:=by
 unfold chunk at hc
 split at hc
 ·rw[if_neg (by omega)]at hc
  split at hc
  ·rename_i h
   exact h.2 h7
  ·exact absurd rfl hc
 ·exact absurd rfl hc
theorem notes_of {H:Hp} {ps:List Int} (hp:∀p ∈ ps,∃j:Nat,p=j∧j<H.row.length∧chunk H.row j≠0) (hs:slotsOk H ps=true):Notes H ps:=by
 intro p hpp h7
 obtain⟨j,rfl,hj,hc⟩:=hp p hpp
 rw[Int.toNat_natCast]at h7 ⊢
 have cn:cnS (H.row.getD j 0)=1:=by unfold cnS;rw[if_pos h7]
 have hb:=chunk_slots hc
 rw[cn]at hb
 have hA:=chunk_note hc h7
 refine⟨by omega,hA,?_⟩
 unfold slotsOk at hs
 rw[List.all_eq_true]at hs
 have h1:=hs _ hpp
 have hl:0<(slotsOf H (j:Int)).length:=by rw[slots_len hc,cn];decide
 have h2:=all_at h1 hl
 rw[slots_getD (by rw[cn];decide)]at h2
 unfold wordIn at h2
 rw[show j+1+0=j+1 from rfl,hA]at h2
 simp only[Bool.not_true,Bool.false_or,Bool.and_eq_true,decide_eq_true_eq]at h2
 exact h2.2.1
end Go.Proofs.YtemlagfaaibenaaGreat.hp
namespace Go.Proofs.YtemlagfaaibenaaGreat.hp
open Go.RowKit rows heads words walks region
set_option maxRecDepth 100000
set_option linter.unusedVariables false
set_option linter.unusedSimpArgs false
def sideB (H:Hp):Bool:=(H.side==0 || H.side==1)&&(decide (0≤H.top)&&decide (H.top≤H.half))
def numB (H:Hp):Bool:=(evn 8 200 H.half&&evn 8 400 H.old)&&((H.row.length:Int)==2*H.half+H.old)&&sideB H&&inR 0 65535 H.seed
theorem rowLength_int {x y:Int} (hx:0≤x∧x≤1000) (hy:0≤y∧y≤1000) (w:World) :
    Calls Tryz.prog 70 #[.int .i64 x,.int .i64 y] w fun e w'=>e = .returned (.int .i64 (2*x+y))∧w'=w:=by
 obtain⟨X,rfl⟩:=Int.eq_ofNat_of_zero_le hx.1
 obtain⟨Y,rfl⟩:=Int.eq_ofNat_of_zero_le hy.1
 exact (rowLength_any X Y (2*X+Y) rfl (by omega) w).mono fun e w' ⟨he,hw⟩=>⟨by rw[he];congr 2,hw⟩
set_option maxHeartbeats 4000000 in
theorem sideOk_any {w:World} {vr vo vm vs:Value} {H:Hp} (h:HpAt w vr vo vm vs H) :
    Calls Tryz.prog 116 #[hpv H vr vo vm vs] w fun e w'=>e = .returned (.bool (sideB H))∧Below w.heap.size w w':=by
 obtain⟨a1,c1,a2,c2,a3,c3,a4,c4,e1,e2,e3,e4⟩:=hpAt_slices h
 subst e1 e2 e3 e4
 have B0:Below w.heap.size w (w.alloc (hpb H (.slice a1 H.row.length c1) (.slice a2 H.roots.length c2) (.slice a3 H.mourned.length c3) (.slice a4 H.seen.length c4))):=(Below.refl _ _).alloc (Nat.le_refl _) _
 have T0:=nine_new w H (.slice a1 H.row.length c1) (.slice a2 H.roots.length c2) (.slice a3 H.mourned.length c3) (.slice a4 H.seen.length c4)
 have HB0:Hid _:=B0
 obtain⟨⟨z0,z1,z2,z3,z4⟩,⟨z5,z6,z7,z8⟩,_⟩:=nine_cells T0
 have key:(H.side==0)=true∨((H.side==0)=false∧(H.side==1)=true)∨((H.side==0)=false∧(H.side==1)=false):=by
  cases (H.side==0)<;>cases (H.side==1)<;>simp
 by_cases t1:0≤H.top
 ·by_cases t2:H.top≤H.half
  ·rcases key with k1|⟨k1,k2⟩|⟨k1,k2⟩
   ·skip
    skip
    rw[show sideB H=true by unfold sideB;simp[*]]
    clear B0 T0 h
    go_enter Tryz.func116,Tryz.ntmps116
    go_wp2
    go_ret
    exact⟨rfl,HB0.out⟩
   ·skip
    skip
    rw[show sideB H=true by unfold sideB;simp[*]]
    clear B0 T0 h
    go_enter Tryz.func116,Tryz.ntmps116
    go_wp2
    go_ret
    exact⟨rfl,HB0.out⟩
   ·skip
    skip
    rw[show sideB H=false by unfold sideB;simp[*]]
    clear B0 T0 h
    go_enter Tryz.func116,Tryz.ntmps116
    go_wp2
    go_ret
    exact⟨rfl,HB0.out⟩
  ·rcases key with k1|⟨k1,k2⟩|⟨k1,k2⟩
   ·skip
    skip
    rw[show sideB H=false by unfold sideB;simp[*]]
    clear B0 T0 h
    go_enter Tryz.func116,Tryz.ntmps116
    go_wp2
    go_ret
    exact⟨rfl,HB0.out⟩
   ·skip
    skip
    rw[show sideB H=false by unfold sideB;simp[*]]
    clear B0 T0 h
    go_enter Tryz.func116,Tryz.ntmps116
    go_wp2
    go_ret
    exact⟨rfl,HB0.out⟩
   ·skip
    skip
    rw[show sideB H=false by unfold sideB;simp[*]]
    clear B0 T0 h
    go_enter Tryz.func116,Tryz.ntmps116
    go_wp2
    go_ret
    exact⟨rfl,HB0.out⟩
 ·rcases key with k1|⟨k1,k2⟩|⟨k1,k2⟩
  ·skip
   skip
   rw[show sideB H=false by unfold sideB;simp[*]]
   clear B0 T0 h
   go_enter Tryz.func116,Tryz.ntmps116
   go_wp2
   go_ret
   exact⟨rfl,HB0.out⟩
  ·skip
   skip
   rw[show sideB H=false by unfold sideB;simp[*]]
   clear B0 T0 h
   go_enter Tryz.func116,Tryz.ntmps116
   go_wp2
   go_ret
   exact⟨rfl,HB0.out⟩
  ·skip
   skip
   rw[show sideB H=false by unfold sideB;simp[*]]
   clear B0 T0 h
   go_enter Tryz.func116,Tryz.ntmps116
   go_wp2
   go_ret
   exact⟨rfl,HB0.out⟩
set_option maxHeartbeats 8000000 in
theorem numbersOk_any {w:World} {vr vo vm vs:Value} {H:Hp} (h:HpAt w vr vo vm vs H) :
    Calls Tryz.prog 93 #[hpv H vr vo vm vs] w fun e w'=>e = .returned (.bool (numB H))∧Below w.heap.size w w':=by
 obtain⟨a1,c1,a2,c2,a3,c3,a4,c4,e1,e2,e3,e4⟩:=hpAt_slices h
 subst e1 e2 e3 e4
 have B0:Below w.heap.size w (w.alloc (hpb H (.slice a1 H.row.length c1) (.slice a2 H.roots.length c2) (.slice a3 H.mourned.length c3) (.slice a4 H.seen.length c4))):=(Below.refl _ _).alloc (Nat.le_refl _) _
 have T0:=nine_new w H (.slice a1 H.row.length c1) (.slice a2 H.roots.length c2) (.slice a3 H.mourned.length c3) (.slice a4 H.seen.length c4)
 have HB0:Hid _:=B0
 cases p1:(evn 8 200 H.half&&evn 8 400 H.old)
 ·skip
  skip
  rw[show numB H=false by unfold numB;simp[*]]
  have HSZ:Hid (∀x:Ext (w.alloc (hpb H (.slice a1 H.row.length c1) (.slice a2 H.roots.length c2) (.slice a3 H.mourned.length c3) (.slice a4 H.seen.length c4))).heap.size (w.alloc (hpb H (.slice a1 H.row.length c1) (.slice a2 H.roots.length c2) (.slice a3 H.mourned.length c3) (.slice a4 H.seen.length c4))),Calls Tryz.prog 115 #[.int .i64 H.half,.int .i64 H.old] x.to fun e w''=>e = .returned (.bool false)∧∃y:Ext (w.alloc (hpb H (.slice a1 H.row.length c1) (.slice a2 H.roots.length c2) (.slice a3 H.mourned.length c3) (.slice a4 H.seen.length c4))).heap.size (w.alloc (hpb H (.slice a1 H.row.length c1) (.slice a2 H.roots.length c2) (.slice a3 H.mourned.length c3) (.slice a4 H.seen.length c4))),w''=y.to):=fun x=>calls_grow (Nat.le_refl _) ((sizesOk_any H.half H.old x.to).mono fun e w' ⟨he,hw⟩=>⟨by rw[he,p1],by rw[hw];exact Below.refl _ _⟩)
  obtain⟨⟨z0,z1,z2,z3,z4⟩,⟨z5,z6,z7,z8⟩⟩:=nine_grow T0
  clear B0 T0 h p1
  go_enter Tryz.func93,Tryz.ntmps93
  go_upto_region 1 with fail
  generalize (w.alloc (hpb H (.slice a1 H.row.length c1) (.slice a2 H.roots.length c2) (.slice a3 H.mourned.length c3) (.slice a4 H.seen.length c4)))=X at *
  haveI:=ext_any X
  refine region_grow (n:=X.heap.size) (by kernel_rfl) (by kernel_rfl) ?_
  repeat (go_big_quiet_step ((first|(go_at_call 115;exact HSZ.out _))))
  refine wpQuiet_nil ?_
  intro _ hw'
  obtain⟨x,rfl⟩:=hw'
  have HBE:Hid _:=HB0.out.trans (x.below.mono HB0.out.size)
  clear z0 z1 z2 z3 z4 z5 z6 z7 z8
  generalize x.to=W at *
  clear x this
  go_wp2
  go_ret
  exact⟨rfl,HBE.out⟩
 ·have p1':=p1
  rw[Bool.and_eq_true]at p1'
  have q1:=evn_true p1'.1
  have q2:=evn_true p1'.2
  have hb1:0≤H.half∧H.half≤1000:=⟨by omega,by omega⟩
  have hb2:0≤H.old∧H.old≤1000:=⟨by omega,by omega⟩
  clear p1' q1 q2
  cases p2:((H.row.length:Int)==2*H.half+H.old)
  ·skip
   skip
   rw[show numB H=false by unfold numB;simp[*]]
   have HSZ:Hid (∀x:Ext (w.alloc (hpb H (.slice a1 H.row.length c1) (.slice a2 H.roots.length c2) (.slice a3 H.mourned.length c3) (.slice a4 H.seen.length c4))).heap.size (w.alloc (hpb H (.slice a1 H.row.length c1) (.slice a2 H.roots.length c2) (.slice a3 H.mourned.length c3) (.slice a4 H.seen.length c4))),Calls Tryz.prog 115 #[.int .i64 H.half,.int .i64 H.old] x.to fun e w''=>e = .returned (.bool true)∧∃y:Ext (w.alloc (hpb H (.slice a1 H.row.length c1) (.slice a2 H.roots.length c2) (.slice a3 H.mourned.length c3) (.slice a4 H.seen.length c4))).heap.size (w.alloc (hpb H (.slice a1 H.row.length c1) (.slice a2 H.roots.length c2) (.slice a3 H.mourned.length c3) (.slice a4 H.seen.length c4))),w''=y.to):=fun x=>calls_grow (Nat.le_refl _) ((sizesOk_any H.half H.old x.to).mono fun e w' ⟨he,hw⟩=>⟨by rw[he,p1],by rw[hw];exact Below.refl _ _⟩)
   have HRL:Hid (∀x:Ext (w.alloc (hpb H (.slice a1 H.row.length c1) (.slice a2 H.roots.length c2) (.slice a3 H.mourned.length c3) (.slice a4 H.seen.length c4))).heap.size (w.alloc (hpb H (.slice a1 H.row.length c1) (.slice a2 H.roots.length c2) (.slice a3 H.mourned.length c3) (.slice a4 H.seen.length c4))),Calls Tryz.prog 70 #[.int .i64 H.half,.int .i64 H.old] x.to fun e w''=>e = .returned (.int .i64 (2*H.half+H.old))∧∃y:Ext (w.alloc (hpb H (.slice a1 H.row.length c1) (.slice a2 H.roots.length c2) (.slice a3 H.mourned.length c3) (.slice a4 H.seen.length c4))).heap.size (w.alloc (hpb H (.slice a1 H.row.length c1) (.slice a2 H.roots.length c2) (.slice a3 H.mourned.length c3) (.slice a4 H.seen.length c4))),w''=y.to):=fun x=>calls_grow (Nat.le_refl _) ((rowLength_int hb1 hb2 x.to).mono fun e w' ⟨he,hw⟩=>⟨he,by rw[hw];exact Below.refl _ _⟩)
   obtain⟨⟨z0,z1,z2,z3,z4⟩,⟨z5,z6,z7,z8⟩⟩:=nine_grow T0
   clear B0 T0 h p1
   go_enter Tryz.func93,Tryz.ntmps93
   go_upto_region 1 with fail
   generalize (w.alloc (hpb H (.slice a1 H.row.length c1) (.slice a2 H.roots.length c2) (.slice a3 H.mourned.length c3) (.slice a4 H.seen.length c4)))=X at *
   haveI:=ext_any X
   refine region_grow (n:=X.heap.size) (by kernel_rfl) (by kernel_rfl) ?_
   repeat (go_big_quiet_step ((first|(go_at_call 115;exact HSZ.out _)|(go_at_call 70;exact HRL.out _))))
   refine wpQuiet_nil ?_
   intro _ hw'
   obtain⟨x,rfl⟩:=hw'
   have HBE:Hid _:=HB0.out.trans (x.below.mono HB0.out.size)
   clear z0 z1 z2 z3 z4 z5 z6 z7 z8
   generalize x.to=W at *
   clear x this
   go_wp2
   go_ret
   exact⟨rfl,HBE.out⟩
  ·cases p3:sideB H
   ·skip
    skip
    rw[show numB H=false by unfold numB;simp[*]]
    have HSZ:Hid (∀x:Ext (w.alloc (hpb H (.slice a1 H.row.length c1) (.slice a2 H.roots.length c2) (.slice a3 H.mourned.length c3) (.slice a4 H.seen.length c4))).heap.size (w.alloc (hpb H (.slice a1 H.row.length c1) (.slice a2 H.roots.length c2) (.slice a3 H.mourned.length c3) (.slice a4 H.seen.length c4))),Calls Tryz.prog 115 #[.int .i64 H.half,.int .i64 H.old] x.to fun e w''=>e = .returned (.bool true)∧∃y:Ext (w.alloc (hpb H (.slice a1 H.row.length c1) (.slice a2 H.roots.length c2) (.slice a3 H.mourned.length c3) (.slice a4 H.seen.length c4))).heap.size (w.alloc (hpb H (.slice a1 H.row.length c1) (.slice a2 H.roots.length c2) (.slice a3 H.mourned.length c3) (.slice a4 H.seen.length c4))),w''=y.to):=fun x=>calls_grow (Nat.le_refl _) ((sizesOk_any H.half H.old x.to).mono fun e w' ⟨he,hw⟩=>⟨by rw[he,p1],by rw[hw];exact Below.refl _ _⟩)
    have HRL:Hid (∀x:Ext (w.alloc (hpb H (.slice a1 H.row.length c1) (.slice a2 H.roots.length c2) (.slice a3 H.mourned.length c3) (.slice a4 H.seen.length c4))).heap.size (w.alloc (hpb H (.slice a1 H.row.length c1) (.slice a2 H.roots.length c2) (.slice a3 H.mourned.length c3) (.slice a4 H.seen.length c4))),Calls Tryz.prog 70 #[.int .i64 H.half,.int .i64 H.old] x.to fun e w''=>e = .returned (.int .i64 (2*H.half+H.old))∧∃y:Ext (w.alloc (hpb H (.slice a1 H.row.length c1) (.slice a2 H.roots.length c2) (.slice a3 H.mourned.length c3) (.slice a4 H.seen.length c4))).heap.size (w.alloc (hpb H (.slice a1 H.row.length c1) (.slice a2 H.roots.length c2) (.slice a3 H.mourned.length c3) (.slice a4 H.seen.length c4))),w''=y.to):=fun x=>calls_grow (Nat.le_refl _) ((rowLength_int hb1 hb2 x.to).mono fun e w' ⟨he,hw⟩=>⟨he,by rw[hw];exact Below.refl _ _⟩)
    have HSD:Hid (∀x:Ext (w.alloc (hpb H (.slice a1 H.row.length c1) (.slice a2 H.roots.length c2) (.slice a3 H.mourned.length c3) (.slice a4 H.seen.length c4))).heap.size (w.alloc (hpb H (.slice a1 H.row.length c1) (.slice a2 H.roots.length c2) (.slice a3 H.mourned.length c3) (.slice a4 H.seen.length c4))),Calls Tryz.prog 116 #[hpv H (.slice a1 H.row.length c1) (.slice a2 H.roots.length c2) (.slice a3 H.mourned.length c3) (.slice a4 H.seen.length c4)] x.to fun e w''=>e = .returned (.bool false)∧∃y:Ext (w.alloc (hpb H (.slice a1 H.row.length c1) (.slice a2 H.roots.length c2) (.slice a3 H.mourned.length c3) (.slice a4 H.seen.length c4))).heap.size (w.alloc (hpb H (.slice a1 H.row.length c1) (.slice a2 H.roots.length c2) (.slice a3 H.mourned.length c3) (.slice a4 H.seen.length c4))),w''=y.to):=fun x=>calls_grow (Nat.le_refl _) ((sideOk_any (hpAt_below h (HB0.out.trans (x.below.mono HB0.out.size)))).mono fun e w' ⟨he,hw⟩=>⟨by rw[he,p3],hw⟩)
    obtain⟨⟨z0,z1,z2,z3,z4⟩,⟨z5,z6,z7,z8⟩⟩:=nine_grow T0
    clear B0 T0 h p1
    go_enter Tryz.func93,Tryz.ntmps93
    go_upto_region 1 with fail
    generalize (w.alloc (hpb H (.slice a1 H.row.length c1) (.slice a2 H.roots.length c2) (.slice a3 H.mourned.length c3) (.slice a4 H.seen.length c4)))=X at *
    haveI:=ext_any X
    refine region_grow (n:=X.heap.size) (by kernel_rfl) (by kernel_rfl) ?_
    repeat (go_big_quiet_step ((first|(go_at_call 115;exact HSZ.out _)|(go_at_call 70;exact HRL.out _)|(go_at_call 116;exact HSD.out _))))
    refine wpQuiet_nil ?_
    intro _ hw'
    obtain⟨x,rfl⟩:=hw'
    have HBE:Hid _:=HB0.out.trans (x.below.mono HB0.out.size)
    clear z0 z1 z2 z3 z4 z5 z6 z7 z8
    generalize x.to=W at *
    clear x this
    go_wp2
    go_ret
    exact⟨rfl,HBE.out⟩
   ·skip
    skip
    rw[show numB H=inR 0 65535 H.seed by unfold numB;simp[*]]
    have HSZ:Hid (∀x:Ext (w.alloc (hpb H (.slice a1 H.row.length c1) (.slice a2 H.roots.length c2) (.slice a3 H.mourned.length c3) (.slice a4 H.seen.length c4))).heap.size (w.alloc (hpb H (.slice a1 H.row.length c1) (.slice a2 H.roots.length c2) (.slice a3 H.mourned.length c3) (.slice a4 H.seen.length c4))),Calls Tryz.prog 115 #[.int .i64 H.half,.int .i64 H.old] x.to fun e w''=>e = .returned (.bool true)∧∃y:Ext (w.alloc (hpb H (.slice a1 H.row.length c1) (.slice a2 H.roots.length c2) (.slice a3 H.mourned.length c3) (.slice a4 H.seen.length c4))).heap.size (w.alloc (hpb H (.slice a1 H.row.length c1) (.slice a2 H.roots.length c2) (.slice a3 H.mourned.length c3) (.slice a4 H.seen.length c4))),w''=y.to):=fun x=>calls_grow (Nat.le_refl _) ((sizesOk_any H.half H.old x.to).mono fun e w' ⟨he,hw⟩=>⟨by rw[he,p1],by rw[hw];exact Below.refl _ _⟩)
    have HRL:Hid (∀x:Ext (w.alloc (hpb H (.slice a1 H.row.length c1) (.slice a2 H.roots.length c2) (.slice a3 H.mourned.length c3) (.slice a4 H.seen.length c4))).heap.size (w.alloc (hpb H (.slice a1 H.row.length c1) (.slice a2 H.roots.length c2) (.slice a3 H.mourned.length c3) (.slice a4 H.seen.length c4))),Calls Tryz.prog 70 #[.int .i64 H.half,.int .i64 H.old] x.to fun e w''=>e = .returned (.int .i64 (2*H.half+H.old))∧∃y:Ext (w.alloc (hpb H (.slice a1 H.row.length c1) (.slice a2 H.roots.length c2) (.slice a3 H.mourned.length c3) (.slice a4 H.seen.length c4))).heap.size (w.alloc (hpb H (.slice a1 H.row.length c1) (.slice a2 H.roots.length c2) (.slice a3 H.mourned.length c3) (.slice a4 H.seen.length c4))),w''=y.to):=fun x=>calls_grow (Nat.le_refl _) ((rowLength_int hb1 hb2 x.to).mono fun e w' ⟨he,hw⟩=>⟨he,by rw[hw];exact Below.refl _ _⟩)
    have HSD:Hid (∀x:Ext (w.alloc (hpb H (.slice a1 H.row.length c1) (.slice a2 H.roots.length c2) (.slice a3 H.mourned.length c3) (.slice a4 H.seen.length c4))).heap.size (w.alloc (hpb H (.slice a1 H.row.length c1) (.slice a2 H.roots.length c2) (.slice a3 H.mourned.length c3) (.slice a4 H.seen.length c4))),Calls Tryz.prog 116 #[hpv H (.slice a1 H.row.length c1) (.slice a2 H.roots.length c2) (.slice a3 H.mourned.length c3) (.slice a4 H.seen.length c4)] x.to fun e w''=>e = .returned (.bool true)∧∃y:Ext (w.alloc (hpb H (.slice a1 H.row.length c1) (.slice a2 H.roots.length c2) (.slice a3 H.mourned.length c3) (.slice a4 H.seen.length c4))).heap.size (w.alloc (hpb H (.slice a1 H.row.length c1) (.slice a2 H.roots.length c2) (.slice a3 H.mourned.length c3) (.slice a4 H.seen.length c4))),w''=y.to):=fun x=>calls_grow (Nat.le_refl _) ((sideOk_any (hpAt_below h (HB0.out.trans (x.below.mono HB0.out.size)))).mono fun e w' ⟨he,hw⟩=>⟨by rw[he,p3],hw⟩)
    have HHS:Hid (∀x:Ext (w.alloc (hpb H (.slice a1 H.row.length c1) (.slice a2 H.roots.length c2) (.slice a3 H.mourned.length c3) (.slice a4 H.seen.length c4))).heap.size (w.alloc (hpb H (.slice a1 H.row.length c1) (.slice a2 H.roots.length c2) (.slice a3 H.mourned.length c3) (.slice a4 H.seen.length c4))),Calls Tryz.prog 117 #[.int .i64 H.seed] x.to fun e w''=>e = .returned (.bool (inR 0 65535 H.seed))∧∃y:Ext (w.alloc (hpb H (.slice a1 H.row.length c1) (.slice a2 H.roots.length c2) (.slice a3 H.mourned.length c3) (.slice a4 H.seen.length c4))).heap.size (w.alloc (hpb H (.slice a1 H.row.length c1) (.slice a2 H.roots.length c2) (.slice a3 H.mourned.length c3) (.slice a4 H.seen.length c4))),w''=y.to):=fun x=>calls_grow (Nat.le_refl _) ((hashInRange_any H.seed x.to).mono fun e w' ⟨he,hw⟩=>⟨he,by rw[hw];exact Below.refl _ _⟩)
    obtain⟨⟨z0,z1,z2,z3,z4⟩,⟨z5,z6,z7,z8⟩⟩:=nine_grow T0
    clear B0 T0 h p1
    generalize inR 0 65535 H.seed=sb at *
    go_enter Tryz.func93,Tryz.ntmps93
    go_upto_region 1 with fail
    generalize (w.alloc (hpb H (.slice a1 H.row.length c1) (.slice a2 H.roots.length c2) (.slice a3 H.mourned.length c3) (.slice a4 H.seen.length c4)))=X at *
    haveI:=ext_any X
    refine region_grow (n:=X.heap.size) (by kernel_rfl) (by kernel_rfl) ?_
    repeat (go_big_quiet_step ((first|(go_at_call 115;exact HSZ.out _)|(go_at_call 70;exact HRL.out _)|(go_at_call 116;exact HSD.out _)|(go_at_call 117;exact HHS.out _))))
    refine wpQuiet_nil ?_
    intro _ hw'
    obtain⟨x,rfl⟩:=hw'
    have HBE:Hid _:=HB0.out.trans (x.below.mono HB0.out.size)
    clear z0 z1 z2 z3 z4 z5 z6 z7 z8
    generalize x.to=W at *
    clear x this
    go_wp2
    go_ret
    exact⟨rfl,HBE.out⟩
end Go.Proofs.YtemlagfaaibenaaGreat.hp
namespace Go.Proofs.YtemlagfaaibenaaGreat.hp
open Go.RowKit rows heads words walks
set_option maxRecDepth 100000
set_option linter.unusedVariables false
set_option linter.unusedSimpArgs false
theorem meth_free (s f c h:Int) (p m:Bool) (ua:Option Addr) (un uc:Nat) (pl:Int) (w:World):(method 269 46 (pdv ⟨s,f,c,h,p,m,.slice ua un uc,pl⟩) "loop.example/g00337/impl.isFree").run Tryz.prog w = .ok (108,cv s f c h p m (.slice ua un uc)) w:=rfl
theorem cellsP_set:∀(ds:List Pd) (i:Nat) (d:Pd),(((((((((cellsP ds).set (i*8) (.int .i64 d.s)).set (i*8+1) (.int .i64 d.f)).set (i*8+2) (.int .i64 d.c)).set (i*8+3) (.int .i64 d.h)).set (i*8+4) (.bool d.p)).set (i*8+5) (.bool d.m)).set (i*8+6) d.u).set (i*8+7) (.int .i64 d.pl))=cellsP (ds.set i d)
 | [],i,d=>by simp[cellsP]
 |e :: ds,0,d=>by simp[cellsP]
 |e :: ds,i+1,d=>by
  rw[show (i+1)*8=i*8+1+1+1+1+1+1+1+1 by omega]
  simp[cellsP,←cellsP_set ds i d]
theorem isFreeP_any (d:Pd) {ua:Option Addr} {un uc:Nat} (hu:d.u = .slice ua un uc) (w:World) :
    Calls Tryz.prog 108 #[cv d.s d.f d.c d.h d.p d.m d.u] w fun e w'=>e = .returned (.bool (freeP d))∧Below w.heap.size w w':=
 (isFree_any d.s d.f d.c d.h d.p d.m d.u w).mono fun e w' ⟨he,hw⟩=>⟨he,by rw[hw];exact (Below.refl _ _).alloc (Nat.le_refl _) _⟩
set_option maxHeartbeats 8000000 in
theorem indexFree_any {w:World} {v:Value} {ds:List Pd} (h:PdsAt w v ds) (hs:SlicesP ds) (hl:ds.length≤1048576) :
    Calls Tryz.prog 101 #[v,.func (.methodOf 46 "loop.example/g00337/impl.isFree") #[] #[]] w fun e w'=>e = .returned (.int .i64 (idxP freeP ds))∧Below w.heap.size w w':=by
 have HP:Hid _:=h
 obtain⟨a,cap,rfl⟩:=pds_slice h
 obtain⟨_,hlc,hcm⟩:=pds_cap h
 obtain⟨R,hR⟩:∃R,idxP freeP ds=R:=⟨_,rfl⟩
 rw[hR]
 have HR:Hid _:=hR
 have HS:Hid _:=hs
 clear hR h hs
 go_enter Tryz.func101,Tryz.ntmps101
 go_wp2_with fail
 go_loopw [8] (fun q wr=>∃k:Nat,k≤ds.length∧q = .int .i64 (k:Int)∧(∀m,m<k→freeP (ds.getD m pdD)=false)∧Below w.heap.size w wr) (fun q _=>ds.length-(intOf q).toNat)
 case atStart=>exact⟨0,Nat.zero_le _,rfl,fun m hm=>by omega,Below.refl _ _⟩
 case round=>
  obtain⟨k,hk,rfl,hne,Br⟩:=hrel
  have HNE:Hid _:=hne
  have HB:Hid _:=Br
  clear hne Br
  by_cases hlt:k<ds.length
  ·obtain⟨b,off,ea,hbl,k0,k1,k2,k3,k4,k5,k6,k7⟩:=pds_cell (pdsAt_below HP.out HB.out) hlt
   subst ea
   obtain⟨ua,un,uc,hu⟩:=HS.out (ds.getD k pdD) (by rw[List.getD_eq_getElem?_getD,List.getElem?_eq_getElem hlt];exact List.getElem_mem hlt)
   obtain⟨x,hx⟩:∃x,ds.getD k pdD=x:=⟨_,rfl⟩
   have HF1:Hid (freeP x=false→∀m,m<k+1→freeP (ds.getD m pdD)=false):=fun e m hm=>by
    by_cases e':m=k
    ·rw[e',hx];exact e
    ·exact HNE.out m (by omega)
   have HF2:Hid (freeP x=true→R=k):=fun e=>HR.out.symm.trans (idxP_at hlt (by rw[hx];exact e) HNE.out)
   rw[hx]at k0 k1 k2 k3 k4 k5 k6 k7 hu
   clear HNE HR hx
   obtain⟨s',f',c',h',p',m',u',pl'⟩:=x
   simp only at k0 k1 k2 k3 k4 k5 k6 k7 hu
   subst hu
   have IS:=isFreeP_any (⟨s',f',c',h',p',m',.slice ua un uc,pl'⟩:Pd) (ua:=ua) (un:=un) (uc:=uc) rfl wr
   have MF:=meth_free s' f' c' h' p' m' ua un uc pl' wr
   obtain⟨tb,htb⟩:∃tb,freeP (⟨s',f',c',h',p',m',.slice ua un uc,pl'⟩:Pd)=tb:=⟨_,rfl⟩
   rw[htb]at IS HF1 HF2
   clear htb
   cases tb with
   |true=>
    have HF3:Hid _:=HF2.out rfl
    clear HF1 HF2
    go_wp2_with (go_at_call 108;refine IS.mono ?_;clear IS;rintro e w3 ⟨rfl,b3⟩;have HB3:Hid _:=HB.out.trans (b3.mono HB.out.size);clear b3)
    go_ret
    exact⟨by rw[HF3.out];rfl,HB3⟩
   |false=>
    have HF3:Hid _:=HF1.out rfl
    clear HF1 HF2
    go_wp2_with (go_at_call 108;refine IS.mono ?_;clear IS;rintro e w3 ⟨rfl,b3⟩;have HB3:Hid _:=HB.out.trans (b3.mono HB.out.size);clear b3)
    exact⟨⟨k+1,by omega,by go_num,HF3,HB3⟩,by simp[intOf];omega⟩
  ·have HF3:Hid (R = -1):=HR.out.symm.trans (idxP_no (fun m hm=>HNE.out m (by omega)))
   clear HNE HR
   go_wp2
   go_ret
   exact⟨by rw[HF3.out];rfl,HB⟩
theorem zeroPd:∀w,(zeroValue 46).run Tryz.prog w = .ok (pdv pdD) w:=fun w=>by go_simp
theorem wpList_clearP {w:World} {ops:Array Oper} {rest:List Oper} {o:Oper} {act:Act} {Q:Exit→Act→World→Prop} {base g k n cap c:Nat} {ds:List Pd}
    (hgd:o.guard=none) (s:Operand) (ho:o.op = .call { callee:=.builtin .clear,args:=#[s],argTypes:=#[53] })
    (hs:act.eval s = .slice (some ⟨g,k*8,none⟩) n c) (hown:w.ownsRow base 46 8 (.slice (some ⟨g,0,none⟩) k cap) k (cellsP ds)) (hkn:k+n≤cap)
    (hK:∀w',w'.ownsRow base 46 8 (.slice (some ⟨g,0,none⟩) k cap) k (cellsP ds)→Ch [g] w w'→wpList Tryz.prog ops Q rest (act.put o.dst (.tuple #[])) w') :
    wpList Tryz.prog ops Q (o :: rest) act w:=by
 obtain⟨h0,⟨h1,_⟩|⟨g',cap',cur,h1,hg,hh,hle,hm,hsz,ht⟩⟩:=hown
 ·cases h1
 injection h1 with e1 e2 e3
 injection e1 with e1
 injection e1 with e1
 subst e1 e3
 refine wpList_plain hgd fun K hK' => ?_
 obtain⟨w',hrun,r1,r2,r3⟩:=copyk.run_clear_k (P:=Tryz.prog) w 53 46 o.type (pdv pdD) 8 Tryz.underlying53 zeroPd (some ⟨g,k*8,none⟩) n c g (k*8) cur.toList 46 (by simpa using hh) (fun _=>rfl) (by simp[Builtin.zeroCells,Value.cells]) (by
  intro v hv
  simp only[Builtin.zeroCells,Value.cells]at hv
  simp at hv
  obtain⟨j,hj,rfl⟩:=hv
  have:j % 8<8:=Nat.mod_lt _ (by decide)
  rcases (show j % 8=0∨j % 8=1∨j % 8=2∨j % 8=3∨j % 8=4∨j % 8=5∨j % 8=6∨j % 8=7 by omega) with h|h|h|h|h|h|h|h<;>rw[h]<;>rfl) (by simp[hsz];omega)
 unfold Oper.wp
 simp[execOp,ho,resolve,invoke,builtin,hs,hrun,Result.andThen]
 have b0:=r3 (Below.refl 0 w) (Nat.zero_le _)
 refine hK' _ _ (hK w' ⟨h0,.inr ⟨g,cap,_,rfl,hg,r1,hle,hm,?_,?_⟩⟩ ⟨b0.os,b0.tape,b0.output,b0.size,fun j _ hj=>r2 j (fun e=>hj (by rw[e];simp))⟩)
 ·split
  ·simpa using hsz
  ·rw[List.size_toArray,length_splice _ _ _ (by simp[Builtin.zeroCells,Value.cells,hsz];omega)]
   simpa using hsz
 ·split
  ·simpa using ht
  ·rw[←ht]
   simp only[splice]
   exact List.take_left' (by simp[hsz];omega)
theorem ownP_take {W:World} {base g n cap k:Nat} {ds:List Pd} (h:OwnP W base (.slice (some ⟨g,0,none⟩) n cap) ds) (hn:n=ds.length) (hk:k≤ds.length):W.ownsRow base 46 8 (.slice (some ⟨g,0,none⟩) k cap) k (cellsP (ds.take k)):=by
 obtain⟨h0,⟨h1,_⟩|⟨g',cap',cur,h1,hg,hh,hle,hm,hsz,ht⟩⟩:=h
 ·cases h1
 injection h1 with e1 e2 e3
 injection e1 with e1
 injection e1 with e1
 subst e1 e3
 have e:cellsP (ds.take k)=(cellsP ds).take (k*8):=by
  have:cellsP ds=cellsP (ds.take k)++cellsP (ds.drop k):=by rw[←cellsP_append,List.take_append_drop]
  rw[this,List.take_left' (by rw[cellsP_length,List.length_take];congr 1;omega)]
 refine⟨by rw[cellsP_length,List.length_take];congr 1;omega,.inr ⟨g,cap,cur,rfl,hg,hh,by omega,hm,hsz,?_⟩⟩
 rw[e,←ht,List.take_take]
 congr 1
 omega
def keepP (ds:List Pd):List Pd:=ds.filter (fun d => !freeP d)
theorem keepP_all {ds:List Pd} (h:∀m,m<ds.length→freeP (ds.getD m pdD)=false):keepP ds=ds:=by
 unfold keepP
 rw[List.filter_eq_self]
 intro d hd
 obtain⟨i,hi,rfl⟩:=List.getElem_of_mem hd
 have:=h i hi
 rw[List.getD_eq_getElem?_getD,List.getElem?_eq_getElem hi]at this
 simpa using this
theorem keepP_next {ds:List Pd} {j:Nat} (hj:j<ds.length):keepP (ds.take (j+1))=keepP (ds.take j)++(if freeP (ds.getD j pdD)=true then [] else [ds.getD j pdD]):=by
 unfold keepP
 rw[List.take_add_one,List.filter_append,List.getElem?_eq_getElem hj,List.getD_eq_getElem?_getD,List.getElem?_eq_getElem hj]
 simp only[Option.toList_some,Option.getD_some]
 congr 1
 cases h:freeP ds[j]<;>simp[h]
structure Del (ds E:List Pd) (i j:Nat):Prop where
 len:E.length=ds.length
 lt:i<j
 le:j≤ds.length
 kept:E.take i=keepP (ds.take j)
 rest:E.drop j=ds.drop j
 sl:SlicesP E
theorem Del.at_j {ds E:List Pd} {i j:Nat} (h:Del ds E i j) (hj:j<ds.length):E.getD j pdD=ds.getD j pdD:=by
 have:=congrArg (fun l=>l[0]?) h.rest
 simp only[List.getElem?_drop,Nat.add_zero]at this
 rw[List.getD_eq_getElem?_getD,List.getD_eq_getElem?_getD,this]
theorem Del.skip {ds E:List Pd} {i j:Nat} (h:Del ds E i j) (hj:j<ds.length) (hf:freeP (ds.getD j pdD)=true):Del ds E i (j+1):=by
 refine⟨h.len,by have:=h.lt;omega,by omega,?_,?_,h.sl⟩
 ·rw[keepP_next hj,if_pos hf,List.append_nil];exact h.kept
 ·have:=congrArg (List.drop 1) h.rest
  simpa [List.drop_drop,Nat.add_comm] using this
theorem Del.take1 {ds E:List Pd} {i j:Nat} (h:Del ds E i j) (hj:j<ds.length) (hf:freeP (ds.getD j pdD)=false) (hs:∃a n c,(ds.getD j pdD).u = .slice a n c):Del ds (E.set i (ds.getD j pdD)) (i+1) (j+1):=by
 have hl:=h.len
 have hi:=h.lt
 refine⟨by simpa using hl,by omega,by omega,?_,?_,?_⟩
 ·rw[keepP_next hj,if_neg (by rw[hf];decide),←h.kept]
  apply List.ext_getElem?
  intro q
  simp only[List.getElem?_take,List.getElem?_set,List.getElem?_append,List.length_take]
  grind
 ·have:=congrArg (List.drop 1) h.rest
  rw[List.drop_drop,List.drop_drop]at this
  rw[List.drop_set_of_lt (by omega)]
  exact this
 ·intro d hd
  rcases List.mem_or_eq_of_mem_set hd with hd|rfl
  ·exact h.sl d hd
  ·exact hs
set_option maxHeartbeats 16000000 in
theorem deleteFree_any {w:World} {base:Nat} {v:Value} {ds:List Pd} (h:OwnP w base v ds) (hs:SlicesP ds) (hl:ds.length≤1000) (hb:base≤w.heap.size) :
    Calls Tryz.prog 107 #[v,.func (.methodOf 46 "loop.example/g00337/impl.isFree") #[] #[]] w fun e w'=>∃v',e = .returned v'∧OwnP w' base v' (keepP ds)∧(∀b,v'.ownBlock=some b→v.ownBlock=some b)∧Ch (blk v) w w':=by
 have IX:=indexFree_any (ownP_at h) hs (by omega)
 obtain⟨R,hR⟩:∃R,keepP ds=R:=⟨_,rfl⟩
 rw[hR]
 have HR:Hid _:=hR
 have HO:Hid _:=h
 have HS:Hid _:=hs
 by_cases hf:∀m,m<ds.length→freeP (ds.getD m pdD)=false
 ·rw[idxP_no hf]at IX
  have HF:Hid (R=ds):=by show R=ds;rw[←hR];exact keepP_all hf
  obtain⟨a,cap,rfl⟩:=pds_slice (ownP_at h)
  clear hf hR h hs
  go_enter Tryz.func107,Tryz.ntmps107
  go_wp2_with (go_at_call 101;refine IX.mono ?_;clear IX;rintro e w3 ⟨rfl,b3⟩;have HB3:Hid _:=b3;clear b3)
  go_ret
  rw[HF.out]
  exact⟨_,rfl,ownP_below HO.out HB3.out,fun b e=>e,ch_below HB3.out⟩
 ·obtain⟨i0,hi0,hfi,hmin⟩:∃i0,i0<ds.length∧freeP (ds.getD i0 pdD)=true∧∀m,m<i0→freeP (ds.getD m pdD)=false:=by
    cases e:ds.findIdx? freeP with
    |none=>
     rw[List.findIdx?_eq_none_iff]at e
     exact absurd (fun m hm=>by
      rw[List.getD_eq_getElem?_getD,List.getElem?_eq_getElem hm]
      simpa using e _ (List.getElem_mem hm)) hf
    |some i0=>
     rw[List.findIdx?_eq_some_iff_getElem]at e
     obtain⟨h1,h2,h3⟩:=e
     refine⟨i0,h1,by rw[List.getD_eq_getElem?_getD,List.getElem?_eq_getElem h1];exact h2,fun m hm => ?_⟩
     rw[List.getD_eq_getElem?_getD,List.getElem?_eq_getElem (by omega)]
     simpa using h3 m hm
  rw[idxP_at hi0 hfi hmin]at IX
  have D0:Del ds ds i0 (i0+1):=by
   refine⟨rfl,by omega,by omega,?_,rfl,hs⟩
   rw[keepP_next hi0,if_pos hfi,List.append_nil]
   refine (keepP_all fun m hm => ?_).symm
   rw[List.length_take]at hm
   have:=hmin m (by omega)
   rwa [List.getD_eq_getElem?_getD,List.getElem?_take,if_pos (by omega),←List.getD_eq_getElem?_getD]
  obtain⟨a,cap,rfl⟩:=pds_slice (ownP_at h)
  obtain⟨g,rfl⟩:∃g,a=some ⟨g,0,none⟩:=by
   obtain⟨_,⟨h1,h2⟩|⟨g,cap',cur,h1,_⟩⟩:=h
   ·simp at h1;omega
   ·injection h1 with h1;exact⟨g,h1⟩
  obtain⟨_,hcl,hcm⟩:=pds_cap (ownP_at h)
  have HD0:Hid _:=D0
  have hgl:base≤g∧g<w.heap.size:=blk_lt h g (by simp[blk,Value.ownBlock])
  clear hf hR h hs hmin hfi D0
  go_enter Tryz.func107,Tryz.ntmps107
  go_wp2_with fail
  refine IX.mono ?_
  clear IX
  rintro e w1 ⟨rfl,b1⟩
  have HO1:Hid _:=ownP_below HO.out b1
  have HC1:Hid (Ch [g] w w1):=ch_below b1
  have s1:=b1.size
  have hm1:((i0:Int) == -1)=false:=by rw[beq_eq_false_iff_ne];omega
  clear b1 HO
  go_wp2_with fail
  go_loopw [5,6,7] (fun p q _ wr=>∃(i j:Nat) (E:List Pd),p = .int .i64 (i:Int)∧q = .int .i64 (j:Int)∧Del ds E i j∧OwnP wr base (.slice (some ⟨g,0,none⟩) ds.length cap) E∧Ch [g] w wr) (fun _ q _ _=>ds.length-(intOf q).toNat)
  case atStart=>exact⟨i0,i0+1,ds,rfl,by simp,HD0.out,HO1.out,HC1.out⟩
  case round=>
   obtain⟨i,j,E,rfl,rfl,hD,hO,hC⟩:=hrel
   clear HO1 HC1 HD0
   have hij:=hD.lt
   have hjl:=hD.le
   have hEl:=hD.len
   have HD:Hid _:=hD
   have HC:Hid _:=hC
   have HOE:Hid _:=hO
   by_cases hlt:j<ds.length
   ·have hlt':(j:Int)<(ds.length:Int):=by omega
    obtain⟨b',off',ea,_,k0,k1,k2,k3,k4,k5,k6,k7⟩:=pds_cell (ownP_at hO) (i:=j) (by omega)
    have e1:b'=g:=by injection ea with e;injection e with e1 e2;exact e1.symm
    have e2:off'=0:=by injection ea with e;injection e with e1 e2;exact e2.symm
    subst e1 e2
    rw[hD.at_j hlt]at k0 k1 k2 k3 k4 k5 k6 k7
    obtain⟨ua,un,uc,hu⟩:=HS.out (ds.getD j pdD) (by rw[List.getD_eq_getElem?_getD,List.getElem?_eq_getElem hlt];exact List.getElem_mem hlt)
    have HSK:Hid (freeP (ds.getD j pdD)=true→Del ds E i (j+1)):=fun e=>hD.skip hlt e
    have HTK:Hid (freeP (ds.getD j pdD)=false→Del ds (E.set i (ds.getD j pdD)) (i+1) (j+1)):=fun e=>hD.take1 hlt e ⟨ua,un,uc,hu⟩
    obtain⟨x,hx⟩:∃x,ds.getD j pdD=x:=⟨_,rfl⟩
    rw[hx]at k0 k1 k2 k3 k4 k5 k6 k7 hu HSK HTK
    obtain⟨s',f',c',h',p',m',u',pl'⟩:=x
    simp only at k0 k1 k2 k3 k4 k5 k6 k7 hu
    subst hu
    simp only[Nat.zero_add]at k0 k1 k2 k3 k4 k5 k6 k7
    obtain⟨X,hX⟩:∃X,X=wr.alloc (pdb (⟨s',f',c',h',p',m',.slice ua un uc,pl'⟩:Pd)):=⟨_,rfl⟩
    have BX:Below wr.heap.size wr X:=by rw[hX];exact (Below.refl _ _).alloc (Nat.le_refl _) _
    have TX:X.heap[wr.heap.size]? = some (pdb (⟨s',f',c',h',p',m',.slice ua un uc,pl'⟩:Pd)):=by rw[hX];exact heap_alloc_new wr _
    have IS:=isFreeP_any (⟨s',f',c',h',p',m',.slice ua un uc,pl'⟩:Pd) (ua:=ua) (un:=un) (uc:=uc) rfl X
    have MF:=meth_free s' f' c' h' p' m' ua un uc pl' X
    obtain⟨tb,htb⟩:∃tb,freeP (⟨s',f',c',h',p',m',.slice ua un uc,pl'⟩:Pd)=tb:=⟨_,rfl⟩
    rw[htb]at IS HSK HTK
    have cX:X.cell? ⟨wr.heap.size,0,none⟩=some (.int .i64 s')∧X.cell? ⟨wr.heap.size,1,none⟩=some (.int .i64 f')∧X.cell? ⟨wr.heap.size,2,none⟩=some (.int .i64 c')∧X.cell? ⟨wr.heap.size,3,none⟩=some (.int .i64 h')∧X.cell? ⟨wr.heap.size,4,none⟩=some (.bool p')∧X.cell? ⟨wr.heap.size,5,none⟩=some (.bool m')∧X.cell? ⟨wr.heap.size,6,none⟩=some (.slice ua un uc)∧X.cell? ⟨wr.heap.size,7,none⟩=some (.int .i64 pl'):=by
     unfold World.cell?
     rw[TX]
     exact⟨rfl,rfl,rfl,rfl,rfl,rfl,rfl,rfl⟩
    obtain⟨q0,q1,q2,q3,q4,q5,q6,q7⟩:=cX
    have HX:Hid _:=hX
    have HBX:Hid _:=BX
    have HTX:Hid _:=TX
    have szr:wr.heap.size<X.heap.size:=lt_of_block TX
    clear htb hx hD hO hC hX BX TX
    cases tb with
    |true=>
     have HV:Hid _:=HSK.out rfl
     clear HSK HTK
     go_upto_region 8 with fail
     rw[←HX.out]
     go_wp2_with (go_at_call 108;refine IS.mono ?_;clear IS;rintro e w3 ⟨rfl,b3⟩;have HB3:Hid (Below wr.heap.size wr w3):=HBX.out.trans (b3.mono (Nat.le_of_lt szr));clear b3)
     exact⟨⟨i,j+1,E,rfl,by go_num,HV.out,ownP_below HOE.out HB3.out,HC.out.trans (ch_below HB3.out)⟩,by simp[intOf];omega⟩
    |false=>
     have HV:Hid _:=HTK.out rfl
     clear HSK HTK
     go_upto_region 8 with fail
     rw[←HX.out]
     go_wp2_with fail
     refine IS.mono ?_
     clear IS
     rintro e w3 ⟨rfl,b3⟩
     have B3:Below wr.heap.size wr w3:=HBX.out.trans (b3.mono (Nat.le_of_lt szr))
     have O3:=ownP_below HOE.out B3
     have T3:=(b3.block wr.heap.size szr).trans HTX.out
     have cX:w3.cell? ⟨wr.heap.size,0,none⟩=some (.int .i64 s')∧w3.cell? ⟨wr.heap.size,1,none⟩=some (.int .i64 f')∧w3.cell? ⟨wr.heap.size,2,none⟩=some (.int .i64 c')∧w3.cell? ⟨wr.heap.size,3,none⟩=some (.int .i64 h')∧w3.cell? ⟨wr.heap.size,4,none⟩=some (.bool p')∧w3.cell? ⟨wr.heap.size,5,none⟩=some (.bool m')∧w3.cell? ⟨wr.heap.size,6,none⟩=some (.slice ua un uc)∧w3.cell? ⟨wr.heap.size,7,none⟩=some (.int .i64 pl'):=by
      unfold World.cell?
      rw[T3]
      exact⟨rfl,rfl,rfl,rfl,rfl,rfl,rfl,rfl⟩
     clear q0 q1 q2 q3 q4 q5 q6 q7
     obtain⟨q0,q1,q2,q3,q4,q5,q6,q7⟩:=cX
     obtain⟨b4,o4,ea4,_,y0,y1,y2,y3,y4,y5,y6,y7⟩:=pds_cell (ownP_at O3) (i:=i) (by omega)
     have e1:b4=b':=by injection ea4 with e;injection e with e1 e2;exact e1.symm
     have e2:o4=0:=by injection ea4 with e;injection e with e1 e2;exact e2.symm
     subst e1 e2
     simp only[Nat.zero_add]at y0 y1 y2 y3 y4 y5 y6 y7
     generalize E.getD i pdD=old at y0 y1 y2 y3 y4 y5 y6 y7
     have O3':w3.ownsRow base 46 8 (.slice (some ⟨b4,0,none⟩) ds.length cap) ds.length (cellsP E):=by
      have:=O3
      unfold OwnP at this
      rwa [hEl]at this
     have fr:∀q,w3.frozen? ⟨b4,q,none⟩=false:=fun q=>World.ownsRow.frozenAt O3' q
     have f0:=fr (i*8)
     have f1:=fr (i*8+1)
     have f2:=fr (i*8+2)
     have f3:=fr (i*8+3)
     have f4:=fr (i*8+4)
     have f5:=fr (i*8+5)
     have f6:=fr (i*8+6)
     have f7:=fr (i*8+7)
     have hne:¬wr.heap.size=b4:=by have:=HC.out.size;omega
     have HOS:Hid (OwnP ((((((((w3.setCell ⟨b4,i*8,none⟩ (.int .i64 s')).setCell ⟨b4,i*8+1,none⟩ (.int .i64 f')).setCell ⟨b4,i*8+2,none⟩ (.int .i64 c')).setCell ⟨b4,i*8+3,none⟩ (.int .i64 h')).setCell ⟨b4,i*8+4,none⟩ (.bool p')).setCell ⟨b4,i*8+5,none⟩ (.bool m')).setCell ⟨b4,i*8+6,none⟩ (.slice ua un uc)).setCell ⟨b4,i*8+7,none⟩ (.int .i64 pl')) base (.slice (some ⟨b4,0,none⟩) ds.length cap) (E.set i (⟨s',f',c',h',p',m',.slice ua un uc,pl'⟩:Pd))):=by
      show World.ownsRow _ _ _ _ _ _ _
      rw[←cellsP_set,List.length_set,hEl]
      exact (World.ownsRow.stored (World.ownsRow.stored (World.ownsRow.stored (World.ownsRow.stored (World.ownsRow.stored (World.ownsRow.stored (World.ownsRow.stored (World.ownsRow.stored O3' _ _).1 _ _).1 _ _).1 _ _).1 _ _).1 _ _).1 _ _).1 _ _).1
     have HCS:Hid (Ch [b4] w ((((((((w3.setCell ⟨b4,i*8,none⟩ (.int .i64 s')).setCell ⟨b4,i*8+1,none⟩ (.int .i64 f')).setCell ⟨b4,i*8+2,none⟩ (.int .i64 c')).setCell ⟨b4,i*8+3,none⟩ (.int .i64 h')).setCell ⟨b4,i*8+4,none⟩ (.bool p')).setCell ⟨b4,i*8+5,none⟩ (.bool m')).setCell ⟨b4,i*8+6,none⟩ (.slice ua un uc)).setCell ⟨b4,i*8+7,none⟩ (.int .i64 pl'))):=HC.out.trans ((ch_below B3).trans ((((((((one_ch _ _ _ _).trans (one_ch _ _ _ _)).trans (one_ch _ _ _ _)).trans (one_ch _ _ _ _)).trans (one_ch _ _ _ _)).trans (one_ch _ _ _ _)).trans (one_ch _ _ _ _)).trans (one_ch _ _ _ _)))
     have hilt:(i:Int)<(ds.length:Int):=by omega
     clear fr O3 O3' T3 b3 B3 HOE HTX HBX k0 k1 k2 k3 k4 k5 k6 k7
     go_wp2
     exact⟨⟨i+1,j+1,_,by go_num,by go_num,HV.out,HOS.out,HCS.out⟩,by simp[intOf];omega⟩
   ·have hlt':¬(j:Int)<(ds.length:Int):=by omega
    have ej:j=ds.length:=by omega
    have hkeep:E.take i=R:=by rw[hD.kept,←HR.out,ej,List.take_of_length_le (Nat.le_refl _)]
    have OT:=ownP_take (k:=i) hO hEl.symm (by omega)
    rw[hkeep]at OT
    have HRl:Hid (R.length=i):=by show R.length=i;rw[←hkeep,List.length_take];omega
    have HOT:Hid _:=OT
    have hci:¬cap=i:=by omega
    have hin:(i:Int)≤(ds.length:Int):=by omega
    have hic:(i:Int)≤(cap:Int):=by omega
    clear hD hO hC HOE OT hkeep ej HD
    go_wp2_with (refine wpList_clearP rfl (.tmp 38) rfl (g:=g) (k:=i) (n:=ds.length-i) (c:=cap-i) (by first|rfl|(simp[go_sem];done)) HOT.out (by omega) ?_;intro w5 h5 c5;have HO5:Hid _:=h5;have HC5:Hid (Ch [g] w w5):=HC.out.trans c5;clear h5 c5)
    go_ret
    refine⟨_,rfl,?_,fun b e=>e,HC5.out⟩
    unfold OwnP
    rw[HRl.out]
    exact HO5.out
theorem wpList_growP {w:World} {ops:Array Oper} {rest:List Oper} {o:Oper} {act:Act} {Q:Exit→Act→World→Prop} (hgd:o.guard=none) (s x:Operand) (ho:o.op = .call { callee:=.builtin .append,args:=#[s,x],argTypes:=#[53,3] })
    (hs:act.eval s = .slice none 0 0) (k:Nat) (h0:0<k) (hk:k≤100000) (hx:act.eval x = .int .i64 (k:Int))
    (hK:∀cap w',k≤cap→cap≤maxLen→OwnP w' w.heap.size (.slice (some ⟨w.heap.size,0,none⟩) 0 cap) []→Below w.heap.size w w'→wpList Tryz.prog ops Q rest (act.put o.dst (.slice (some ⟨w.heap.size,0,none⟩) k cap)) w') :
    wpList Tryz.prog ops Q (o :: rest) act w:=by
 obtain⟨i0,hi,hz0,hz1,hz2⟩:=info_parts infoP
 refine wpList_plain hgd fun K hK' => ?_
 have hrun:=Go.Lib.run_append_grow_zeros (P:=Tryz.prog) w 53 3 o.type 46 i0 (pdv pdD) .i64 .i64 Tryz.underlying53 Tryz.underlying3 hi hz0 none 0 0 [] (by simp[Builtin.firstCells]) k h0 (by rw[hz1];decide) (by omega) (by omega) (by rw[hz2];omega) (by rw[hz2];unfold Builtin.nextslicecap;simp;split<;>omega)
 unfold Oper.wp
 simp[execOp,ho,resolve,invoke,builtin,hs,hx,hrun,Result.andThen]
 have hge:=grownCap_ge w (0+k) 0 46
 have hle:=grownCap_le_maxLen w (0+k) 0 46 (by unfold maxLen;omega)
 rw[Nat.zero_add]at hge hle
 refine hK' _ _ (hK _ _ hge hle ?_ ((Below.refl _ w).drew.alloc (Nat.le_refl _) _))
 refine⟨rfl,.inr ⟨w.heap.size,_,_,rfl,Nat.le_refl _,heap_alloc_new w.drew _,Nat.zero_le _,hle,?_,by simp[cellsP]⟩⟩
 simp[size_zeroCells,Value.cells]
 omega
set_option maxHeartbeats 4000000 in
theorem growP_any (k:Nat) (hk:k≤100000) (w:World) :
    Calls Tryz.prog 131 #[.slice none 0 0,.int .i64 (k:Int)] w fun e w'=>∃v',e = .returned v'∧OwnP w' w.heap.size v' []∧Below w.heap.size w w':=by
 by_cases h0:k=0
 ·subst h0
  go_enter Tryz.func131,Tryz.ntmps131
  go_wp2
  go_ret
  exact⟨_,rfl,World.ownsRow_nil _ _ _ _,Below.refl _ _⟩
 ·have hp:0<k:=by omega
  have hp1:(k:Int) > 0:=by omega
  have hp2:¬(k:Int)<0:=by omega
  go_enter Tryz.func131,Tryz.ntmps131
  go_wp2_with (refine wpList_growP rfl (.tmp 20) (.tmp 21) rfl (by first|rfl|(simp[go_sem];done)) k hp hk (by first|rfl|(simp[go_sem];done)) ?_;intro cap w2 hc1 hc2 hO hB;have HO:Hid _:=hO;have HB:Hid _:=hB;have hc3:cap≤9223372036854775807:=hc2;clear hO hB)
  go_ret
  exact⟨_,rfl,HO.out,HB.out⟩
theorem wpList_app_pds {w:World} {ops:Array Oper} {rest:List Oper} {o:Oper} {act:Act} {Q:Exit→Act→World→Prop} (hgd:o.guard=none) (s x:Operand) (ho:o.op = .call { callee:=.builtin .append,args:=#[s,x],argTypes:=#[53,53] })
    (base:Nat) (v:Value) (ds:List Pd) (hs:act.eval s=v) (hown:OwnP w base v ds) (u:Value) (es:List Pd) (hx:act.eval x=u) (hU:PdsAt w u es) (hsl:SlicesP es) (hb:ds.length+es.length≤100000) (hbase:base≤w.heap.size)
    (hK:∀v' w',OwnP w' base v' (ds++es)→Ch (blk v) w w'→wpList Tryz.prog ops Q rest (act.put o.dst v') w') :
    wpList Tryz.prog ops Q (o :: rest) act w:=by
 obtain⟨i0,hi,hz0,hz1,hz2⟩:=info_parts infoP
 obtain⟨ad,cap,e,hlc,hcm,hnil,_⟩:=id hU
 subst e
 cases ad with
 |some ad=>
  refine wpList_append_own_at _ hgd s x _ ho base 46 i0 (pdv pdD) 8 72 Tryz.underlying53 hi hz0 hz1 hz2 rfl (by decide) v ds.length (cellsP ds) hs hown ad es.length cap (cellsP es) hx (cellsP_length es) (pds_news hU) (cellsP_one hsl) (by unfold maxLen;omega) (by omega) hbase ?_
  intro v' w' h1 h2 _ _
  refine hK v' w' ?_ (ch_grown h2)
  unfold OwnP
  rw[cellsP_append,List.length_append]
  exact h1
 |none=>
  have hc:=hnil rfl
  have hy:es=[]:=List.eq_nil_of_length_eq_zero (by omega)
  subst hy hc
  refine wpList_plain hgd fun K hK' => ?_
  have hrun:=run_append_owned_none (P:=Tryz.prog) (w:=w) base 53 o.type 46 i0 8 Tryz.underlying53 hi v ds.length (cellsP ds) hown
  have hx':act.eval x = .slice none 0 0:=hx
  unfold Oper.wp
  simp[execOp,ho,resolve,invoke,builtin,hs,hx',hrun,Result.andThen]
  exact hK' _ _ (hK v w (by rw[List.append_nil];exact hown) (Ch.refl _ _))
set_option maxHeartbeats 8000000 in
theorem concat_any {w:World} {b:Nat} {v1 v2:Value} {ds es:List Pd} (hb:w.heap[b]? = some (.cells #[v1,v2] 53 (0,0))) (h1:PdsAt w v1 ds) (h2:PdsAt w v2 es) (s1:SlicesP ds) (s2:SlicesP es) (hl:ds.length≤1000∧es.length≤1000) :
    Calls Tryz.prog 109 #[.slice (some ⟨b,0,none⟩) 2 2] w fun e w'=>∃v',e = .returned v'∧OwnP w' w.heap.size v' (ds++es)∧Below w.heap.size w w':=by
 obtain⟨hl1,hl2⟩:=hl
 have HP1:Hid (PdsAt w v1 ds):=h1
 have HP2:Hid (PdsAt w v2 es):=h2
 have HS1:Hid _:=s1
 have HS2:Hid _:=s2
 obtain⟨a1,c1,rfl⟩:=pds_slice h1
 obtain⟨a2,c2,rfl⟩:=pds_slice h2
 have hbl:=lt_of_block hb
 have k0:w.cell? ⟨b,0,none⟩=some (.slice a1 ds.length c1):=by simp[World.cell?, hb]
 have k1:w.cell? ⟨b,1,none⟩=some (.slice a2 es.length c2):=by simp[World.cell?, hb]
 clear h1 h2 s1 s2 hb
 go_enter Tryz.func109,Tryz.ntmps109
 go_wp2_with fail
 go_loopw [3,5,11] (fun z _ q wr=>((z = .int .i64 0∧q = .int .i64 0)∨(z = .int .i64 (ds.length:Int)∧q = .int .i64 1)∨(z = .int .i64 ((ds.length:Int)+es.length)∧q = .int .i64 2))∧wr=w) (fun _ _ q _=>2-(intOf q).toNat)
 case atStart=>exact⟨.inl ⟨rfl,rfl⟩,rfl⟩
 case round=>
  obtain⟨hc,hw⟩:=hrel
  have hw':=hw.symm
  clear hw
  subst hw'
  rcases hc with ⟨rfl,rfl⟩|⟨rfl,rfl⟩|⟨rfl,rfl⟩
  ·have p1:¬(ds.length:Int)<0:=by omega
   go_wp2
   exact⟨⟨.inr (.inl ⟨rfl,rfl⟩),by trivial⟩,by simp[intOf]⟩
  ·have p1:¬(ds.length:Int)+(es.length:Int)<0:=by omega
   go_wp2
   exact⟨⟨.inr (.inr ⟨rfl,rfl⟩),by trivial⟩,by simp[intOf]⟩
  ·obtain⟨T,hT⟩:∃T:Nat,ds.length+es.length=T:=⟨_,rfl⟩
   have eT:(ds.length:Int)+(es.length:Int)=(T:Int):=by omega
   have GR:=growP_any T (by omega) w
   have HT:Hid _:=hT
   clear hT
   go_wp2_with fail
   refine GR.mono ?_
   clear GR
   rintro e w2 ⟨v2,rfl,O2,b2⟩
   have HO2:Hid _:=O2
   have HB2:Hid _:=b2
   obtain⟨na,nc,rfl⟩:=pds_slice (ownP_at O2)
   clear O2 b2
   go_wp2_with fail
   go_loopw [6,8,27] (fun o _ q wz=>∃v,v=o∧((q = .int .i64 0∧OwnP wz w.heap.size v [])∨(q = .int .i64 1∧OwnP wz w.heap.size v ds)∨(q = .int .i64 2∧OwnP wz w.heap.size v (ds++es)))∧Below w.heap.size w wz) (fun _ _ q _=>2-(intOf q).toNat)
   case atStart=>exact⟨_,rfl,.inl ⟨rfl,HO2.out⟩,HB2.out⟩
   case round=>
    obtain⟨v,rfl,hc,hB⟩:=hrel
    clear HO2 HB2
    have z0:=(hB.cell (p:=⟨b,0,none⟩) hbl).trans k0
    have z1:=(hB.cell (p:=⟨b,1,none⟩) hbl).trans k1
    have HB:Hid _:=hB
    have sB:=hB.size
    rcases hc with ⟨rfl,hO⟩|⟨rfl,hO⟩|⟨rfl,hO⟩
    ·have HOV:Hid _:=hO
     obtain⟨va,vc,rfl⟩:=pds_slice (ownP_at hO)
     have HU:Hid _:=pdsAt_below HP1.out hB
     clear hO hB k0 k1
     go_wp2_with (refine wpList_app_pds rfl (.tmp 31) (.tmp 32) rfl w.heap.size (.slice va ([]:List Pd).length vc) [] (by first|rfl|(simp[go_sem];done)) HOV.out (.slice a1 ds.length c1) ds (by first|rfl|(simp[go_sem];done)) HU.out HS1.out (by simp;omega) sB ?_;intro v' w5 h5 c5;have HO5:Hid (OwnP w5 w.heap.size v' ds):=h5;have HB5:Hid (Below w.heap.size w w5):=HB.out.trans (below_ch c5 sB (fun k hk=>(blk_lt HOV.out k hk).1));obtain⟨na',nc',rfl⟩:=pds_slice (ownP_at h5);clear h5 c5)
     exact⟨⟨_,rfl,.inr (.inl ⟨rfl,HO5.out⟩),HB5.out⟩,by simp[intOf]⟩
    ·have HOV:Hid _:=hO
     obtain⟨va,vc,rfl⟩:=pds_slice (ownP_at hO)
     have HU:Hid _:=pdsAt_below HP2.out hB
     clear hO hB k0 k1
     go_wp2_with (refine wpList_app_pds rfl (.tmp 31) (.tmp 32) rfl w.heap.size (.slice va ds.length vc) ds (by first|rfl|(simp[go_sem];done)) HOV.out (.slice a2 es.length c2) es (by first|rfl|(simp[go_sem];done)) HU.out HS2.out (by omega) sB ?_;intro v' w5 h5 c5;have HO5:Hid (OwnP w5 w.heap.size v' (ds++es)):=h5;have HB5:Hid (Below w.heap.size w w5):=HB.out.trans (below_ch c5 sB (fun k hk=>(blk_lt HOV.out k hk).1));obtain⟨na',nc',rfl⟩:=pds_slice (ownP_at h5);clear h5 c5)
     exact⟨⟨_,rfl,.inr (.inr ⟨rfl,by have:=HO5.out;rw[List.length_append]at this;exact this⟩),HB5.out⟩,by simp[intOf]⟩
    ·have HOV:Hid _:=hO
     obtain⟨va,vc,rfl⟩:=pds_slice (ownP_at hO)
     clear hO hB k0 k1
     go_wp2
     go_ret
     exact⟨_,rfl,HOV.out,HB.out⟩
end Go.Proofs.YtemlagfaaibenaaGreat.hp
