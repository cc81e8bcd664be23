/-
  A region that leaves its order open and whose calls make memory: by the class of the worlds that grow out of one (for seats without graphs). Chapter 9 as the program has it: the numbers of a heap. Chapter 6 as the program has it: a slot of the object to which a root leads. Chapter 6: right graphs st
-/
import Derived.Test.YtkiognecebgaiaaGreatDoorHeapS5
import Derived.Deep.QuietTactic
import Derived.BigQuiet
import Derived.Test.YtkiognecebgaiaaGreatDoorM9
import Derived.Test.YtkiognecebgaiaaGreatDoorGraphEd1
import Derived.Lib.Hide
import Derived.Test.YtkiognecebgaiaaGreatDoorM10
import Derived.Test.YtkiognecebgaiaaGreatDoorM4
import Derived.Lib.ItoaNum
import Derived.Lib.ItoaLen
import Derived.Maps.OwnSet
import Derived.Maps.AppendAt
import Derived.Laws.OwnMore
import Derived.Deep.AppendLies
import Derived.Deep.RegionLaw
import Derived.Test.YtkiognecebgaiaaGreatDoorM1
namespace Go.Proofs.YtkiognecebgaiaaGreatDoor.hp
open Go.RowKit rows heads words walks
def Ext (n:Nat) (w:World):Type:= { w':World // Below n w w' }
def Ext.to {n:Nat} {w:World} (x:Ext n w):World:=x.1
theorem Ext.below {n:Nat} {w:World} (x:Ext n w):Below n w x.to:=x.2
theorem Ext.of {n:Nat} {w w':World} (h:Below n w w'):∃x:Ext n w,w'=x.to:=⟨⟨w',h⟩,rfl⟩
theorem region_grow {P:Program} {id n:Nat} {Q:Exit→Act→World→Prop} {a:Act} {w:World} {l:List Oper} (hm:P.follows .mixedOrders=true) (hB:Region.lexB .any l.toArray=true)
    (h:wpQuiet P l.toArray (fun w'=>∃x:Ext n w,w'=x.to) (fun a'=>∀w',(∃x:Ext n w,w'=x.to)→Q .normal a' w') l a):(Code.region id l.toArray true).wp P Q a w:=
 wp_region_quiet (C:=fun w'=>∃x:Ext n w,w'=x.to) hm hB (Ext.of (Below.refl n w).drew) (by simpa using h)
theorem calls_grow {P:Program} {f:FuncId} {args:Array Value} {n:Nat} {w:World} {x:Ext n w} {v:Value} (hn:n≤w.heap.size)
    (h:Calls P f args x.to fun e w'=>e = .returned v∧Below x.to.heap.size x.to w'):Calls P f args x.to fun e w''=>e = .returned v∧∃y:Ext n w,w''=y.to:=
 h.mono fun _ _ ⟨he,hb⟩=>⟨he,Ext.of (x.below.trans (hb.mono (Nat.le_trans hn x.below.size)))⟩
theorem ext_any (w:World):Nonempty (Ext w.heap.size w):=⟨⟨w,Below.refl _ _⟩⟩
theorem nine_grow {w:World} {b:Nat} {t:TypeId} {c0 c1 c2 c3 c4 c5 c6 c7 c8:Value} (h:Nine w b t c0 c1 c2 c3 c4 c5 c6 c7 c8) :
    ((∀x:Ext w.heap.size w,x.to.cell? ⟨b,0,none⟩=some c0)∧(∀x:Ext w.heap.size w,x.to.cell? ⟨b,1,none⟩=some c1)∧(∀x:Ext w.heap.size w,x.to.cell? ⟨b,2,none⟩=some c2)∧(∀x:Ext w.heap.size w,x.to.cell? ⟨b,3,none⟩=some c3)∧(∀x:Ext w.heap.size w,x.to.cell? ⟨b,4,none⟩=some c4)) ∧
    ((∀x:Ext w.heap.size w,x.to.cell? ⟨b,5,none⟩=some c5)∧(∀x:Ext w.heap.size w,x.to.cell? ⟨b,6,none⟩=some c6)∧(∀x:Ext w.heap.size w,x.to.cell? ⟨b,7,none⟩=some c7)∧(∀x:Ext w.heap.size w,x.to.cell? ⟨b,8,none⟩=some c8)):=by
 obtain⟨⟨k0,k1,k2,k3,k4⟩,⟨k5,k6,k7,k8⟩,_⟩:=nine_cells h
 have hb:=lt_of_block h
 exact⟨⟨fun x=>(x.below.cell (p:=⟨b,0,none⟩) hb).trans k0,fun x=>(x.below.cell (p:=⟨b,1,none⟩) hb).trans k1,fun x=>(x.below.cell (p:=⟨b,2,none⟩) hb).trans k2,fun x=>(x.below.cell (p:=⟨b,3,none⟩) hb).trans k3,fun x=>(x.below.cell (p:=⟨b,4,none⟩) hb).trans k4⟩,fun x=>(x.below.cell (p:=⟨b,5,none⟩) hb).trans k5,fun x=>(x.below.cell (p:=⟨b,6,none⟩) hb).trans k6,fun x=>(x.below.cell (p:=⟨b,7,none⟩) hb).trans k7,fun x=>(x.below.cell (p:=⟨b,8,none⟩) hb).trans k8⟩
theorem cell_grow {w:World} {p:Addr} {v:Value} (h:w.cell? p=some v):∀x:Ext w.heap.size w,x.to.cell? p=some v:=fun x=>(x.below.cell (p:=p) (World.block_lt_of_cell? _ _ h)).trans h
theorem slots_len {H:Hp} {j:Nat} (hc:chunk H.row j≠0):(slotsOf H j).length=(cnS (H.row.getD j 0)).toNat:=by
 have:=chunk_slots hc
 unfold slotsOf
 rw[Int.toNat_natCast,List.length_take,List.length_drop]
 omega
theorem slots_getD {H:Hp} {j:Nat} {k:Nat} (hk:k<(cnS (H.row.getD j 0)).toNat):(slotsOf H j).getD k 0=H.row.getD (j+1+k) 0:=by
 unfold slotsOf
 rw[Int.toNat_natCast]
 generalize (cnS (H.row.getD j 0)).toNat=n at *
 rw[List.getD_eq_getElem?_getD,List.getD_eq_getElem?_getD,List.getElem?_take,if_pos hk,List.getElem?_drop]
theorem chunk_note {xs:List Int} {j:Nat} (hc:chunk xs j≠0) (h7:uF (xs.getD j 0)=7):isA (xs.getD (j+1) 0)=true:=by
 unfold chunk at hc
 split at hc
 ·rw[if_neg (by omega)]at hc
  split at hc
  ·rename_i h
   exact h.2 h7
  ·exact absurd rfl hc
 ·exact absurd rfl hc
theorem notes_of {H:Hp} {ps:List Int} (hp:∀p ∈ ps,∃j:Nat,p=j∧j<H.row.length∧chunk H.row j≠0) (hs:slotsOk H ps=true):Notes H ps:=by
 intro p hpp h7
 obtain⟨j,rfl,hj,hc⟩:=hp p hpp
 rw[Int.toNat_natCast]at h7 ⊢
 have cn:cnS (H.row.getD j 0)=1:=by unfold cnS;rw[if_pos h7]
 have hb:=chunk_slots hc
 rw[cn]at hb
 have hA:=chunk_note hc h7
 refine⟨by omega,hA,?_⟩
 unfold slotsOk at hs
 rw[List.all_eq_true]at hs
 have h1:=hs _ hpp
 have hl:0<(slotsOf H (j:Int)).length:=by rw[slots_len hc,cn];decide
 have h2:=all_at h1 hl
 rw[slots_getD (by rw[cn];decide)]at h2
 unfold wordIn at h2
 rw[show j+1+0=j+1 from rfl,hA]at h2
 simp only[Bool.not_true,Bool.false_or,Bool.and_eq_true,decide_eq_true_eq]at h2
 exact h2.2.1
end Go.Proofs.YtkiognecebgaiaaGreatDoor.hp
namespace Go.Proofs.YtkiognecebgaiaaGreatDoor.hp
open Go.RowKit rows heads words walks region
set_option maxRecDepth 100000
set_option linter.unusedVariables false
set_option linter.unusedSimpArgs false
def sideB (H:Hp):Bool:=(H.side==0 || H.side==1)&&(decide (0≤H.top)&&decide (H.top≤H.half))
def numB (H:Hp):Bool:=(evn 8 200 H.half&&evn 8 400 H.old)&&((H.row.length:Int)==2*H.half+H.old)&&sideB H&&inR 0 65535 H.seed
theorem rowLength_int {x y:Int} (hx:0≤x∧x≤1000) (hy:0≤y∧y≤1000) (w:World) :
    Calls Tryz.prog 170 #[.int .i64 x,.int .i64 y] w fun e w'=>e = .returned (.int .i64 (2*x+y))∧w'=w:=by
 obtain⟨X,rfl⟩:=Int.eq_ofNat_of_zero_le hx.1
 obtain⟨Y,rfl⟩:=Int.eq_ofNat_of_zero_le hy.1
 exact (rowLength_any X Y (2*X+Y) rfl (by omega) w).mono fun e w' ⟨he,hw⟩=>⟨by rw[he];congr 2,hw⟩
set_option maxHeartbeats 4000000 in
theorem sideOk_any {w:World} {vr vo vm vs:Value} {H:Hp} (h:HpAt w vr vo vm vs H) :
    Calls Tryz.prog 171 #[hpv H vr vo vm vs] w fun e w'=>e = .returned (.bool (sideB H))∧Below w.heap.size w w':=by
 obtain⟨a1,c1,a2,c2,a3,c3,a4,c4,e1,e2,e3,e4⟩:=hpAt_slices h
 subst e1 e2 e3 e4
 have B0:Below w.heap.size w (w.alloc (hpb H (.slice a1 H.row.length c1) (.slice a2 H.roots.length c2) (.slice a3 H.mourned.length c3) (.slice a4 H.seen.length c4))):=(Below.refl _ _).alloc (Nat.le_refl _) _
 have T0:=nine_new w H (.slice a1 H.row.length c1) (.slice a2 H.roots.length c2) (.slice a3 H.mourned.length c3) (.slice a4 H.seen.length c4)
 have HB0:Hid _:=B0
 obtain⟨⟨z0,z1,z2,z3,z4⟩,⟨z5,z6,z7,z8⟩,_⟩:=nine_cells T0
 have key:(H.side==0)=true∨((H.side==0)=false∧(H.side==1)=true)∨((H.side==0)=false∧(H.side==1)=false):=by
  cases (H.side==0)<;>cases (H.side==1)<;>simp
 by_cases t1:0≤H.top
 ·by_cases t2:H.top≤H.half
  ·rcases key with k1|⟨k1,k2⟩|⟨k1,k2⟩
   ·skip
    skip
    rw[show sideB H=true by unfold sideB;simp[*]]
    clear B0 T0 h
    go_enter Tryz.func171,Tryz.ntmps171
    go_wp2
    go_ret
    exact⟨rfl,HB0.out⟩
   ·skip
    skip
    rw[show sideB H=true by unfold sideB;simp[*]]
    clear B0 T0 h
    go_enter Tryz.func171,Tryz.ntmps171
    go_wp2
    go_ret
    exact⟨rfl,HB0.out⟩
   ·skip
    skip
    rw[show sideB H=false by unfold sideB;simp[*]]
    clear B0 T0 h
    go_enter Tryz.func171,Tryz.ntmps171
    go_wp2
    go_ret
    exact⟨rfl,HB0.out⟩
  ·rcases key with k1|⟨k1,k2⟩|⟨k1,k2⟩
   ·skip
    skip
    rw[show sideB H=false by unfold sideB;simp[*]]
    clear B0 T0 h
    go_enter Tryz.func171,Tryz.ntmps171
    go_wp2
    go_ret
    exact⟨rfl,HB0.out⟩
   ·skip
    skip
    rw[show sideB H=false by unfold sideB;simp[*]]
    clear B0 T0 h
    go_enter Tryz.func171,Tryz.ntmps171
    go_wp2
    go_ret
    exact⟨rfl,HB0.out⟩
   ·skip
    skip
    rw[show sideB H=false by unfold sideB;simp[*]]
    clear B0 T0 h
    go_enter Tryz.func171,Tryz.ntmps171
    go_wp2
    go_ret
    exact⟨rfl,HB0.out⟩
 ·rcases key with k1|⟨k1,k2⟩|⟨k1,k2⟩
  ·skip
   skip
   rw[show sideB H=false by unfold sideB;simp[*]]
   clear B0 T0 h
   go_enter Tryz.func171,Tryz.ntmps171
   go_wp2
   go_ret
   exact⟨rfl,HB0.out⟩
  ·skip
   skip
   rw[show sideB H=false by unfold sideB;simp[*]]
   clear B0 T0 h
   go_enter Tryz.func171,Tryz.ntmps171
   go_wp2
   go_ret
   exact⟨rfl,HB0.out⟩
  ·skip
   skip
   rw[show sideB H=false by unfold sideB;simp[*]]
   clear B0 T0 h
   go_enter Tryz.func171,Tryz.ntmps171
   go_wp2
   go_ret
   exact⟨rfl,HB0.out⟩
set_option maxHeartbeats 8000000 in
theorem numbersOk_any {w:World} {vr vo vm vs:Value} {H:Hp} (h:HpAt w vr vo vm vs H) :
    Calls Tryz.prog 150 #[hpv H vr vo vm vs] w fun e w'=>e = .returned (.bool (numB H))∧Below w.heap.size w w':=by
 obtain⟨a1,c1,a2,c2,a3,c3,a4,c4,e1,e2,e3,e4⟩:=hpAt_slices h
 subst e1 e2 e3 e4
 have B0:Below w.heap.size w (w.alloc (hpb H (.slice a1 H.row.length c1) (.slice a2 H.roots.length c2) (.slice a3 H.mourned.length c3) (.slice a4 H.seen.length c4))):=(Below.refl _ _).alloc (Nat.le_refl _) _
 have T0:=nine_new w H (.slice a1 H.row.length c1) (.slice a2 H.roots.length c2) (.slice a3 H.mourned.length c3) (.slice a4 H.seen.length c4)
 have HB0:Hid _:=B0
 cases p1:(evn 8 200 H.half&&evn 8 400 H.old)
 ·skip
  skip
  rw[show numB H=false by unfold numB;simp[*]]
  have HSZ:Hid (∀x:Ext (w.alloc (hpb H (.slice a1 H.row.length c1) (.slice a2 H.roots.length c2) (.slice a3 H.mourned.length c3) (.slice a4 H.seen.length c4))).heap.size (w.alloc (hpb H (.slice a1 H.row.length c1) (.slice a2 H.roots.length c2) (.slice a3 H.mourned.length c3) (.slice a4 H.seen.length c4))),Calls Tryz.prog 169 #[.int .i64 H.half,.int .i64 H.old] x.to fun e w''=>e = .returned (.bool false)∧∃y:Ext (w.alloc (hpb H (.slice a1 H.row.length c1) (.slice a2 H.roots.length c2) (.slice a3 H.mourned.length c3) (.slice a4 H.seen.length c4))).heap.size (w.alloc (hpb H (.slice a1 H.row.length c1) (.slice a2 H.roots.length c2) (.slice a3 H.mourned.length c3) (.slice a4 H.seen.length c4))),w''=y.to):=fun x=>calls_grow (Nat.le_refl _) ((sizesOk_any H.half H.old x.to).mono fun e w' ⟨he,hw⟩=>⟨by rw[he,p1],by rw[hw];exact Below.refl _ _⟩)
  obtain⟨⟨z0,z1,z2,z3,z4⟩,⟨z5,z6,z7,z8⟩⟩:=nine_grow T0
  clear B0 T0 h p1
  go_enter Tryz.func150,Tryz.ntmps150
  go_upto_region 1 with fail
  generalize (w.alloc (hpb H (.slice a1 H.row.length c1) (.slice a2 H.roots.length c2) (.slice a3 H.mourned.length c3) (.slice a4 H.seen.length c4)))=X at *
  haveI:=ext_any X
  refine region_grow (n:=X.heap.size) (by kernel_rfl) (by kernel_rfl) ?_
  repeat (go_big_quiet_step ((first|(go_at_call 169;exact HSZ.out _))))
  refine wpQuiet_nil ?_
  intro _ hw'
  obtain⟨x,rfl⟩:=hw'
  have HBE:Hid _:=HB0.out.trans (x.below.mono HB0.out.size)
  clear z0 z1 z2 z3 z4 z5 z6 z7 z8
  generalize x.to=W at *
  clear x this
  go_wp2
  go_ret
  exact⟨rfl,HBE.out⟩
 ·have p1':=p1
  rw[Bool.and_eq_true]at p1'
  have q1:=evn_true p1'.1
  have q2:=evn_true p1'.2
  have hb1:0≤H.half∧H.half≤1000:=⟨by omega,by omega⟩
  have hb2:0≤H.old∧H.old≤1000:=⟨by omega,by omega⟩
  clear p1' q1 q2
  cases p2:((H.row.length:Int)==2*H.half+H.old)
  ·skip
   skip
   rw[show numB H=false by unfold numB;simp[*]]
   have HSZ:Hid (∀x:Ext (w.alloc (hpb H (.slice a1 H.row.length c1) (.slice a2 H.roots.length c2) (.slice a3 H.mourned.length c3) (.slice a4 H.seen.length c4))).heap.size (w.alloc (hpb H (.slice a1 H.row.length c1) (.slice a2 H.roots.length c2) (.slice a3 H.mourned.length c3) (.slice a4 H.seen.length c4))),Calls Tryz.prog 169 #[.int .i64 H.half,.int .i64 H.old] x.to fun e w''=>e = .returned (.bool true)∧∃y:Ext (w.alloc (hpb H (.slice a1 H.row.length c1) (.slice a2 H.roots.length c2) (.slice a3 H.mourned.length c3) (.slice a4 H.seen.length c4))).heap.size (w.alloc (hpb H (.slice a1 H.row.length c1) (.slice a2 H.roots.length c2) (.slice a3 H.mourned.length c3) (.slice a4 H.seen.length c4))),w''=y.to):=fun x=>calls_grow (Nat.le_refl _) ((sizesOk_any H.half H.old x.to).mono fun e w' ⟨he,hw⟩=>⟨by rw[he,p1],by rw[hw];exact Below.refl _ _⟩)
   have HRL:Hid (∀x:Ext (w.alloc (hpb H (.slice a1 H.row.length c1) (.slice a2 H.roots.length c2) (.slice a3 H.mourned.length c3) (.slice a4 H.seen.length c4))).heap.size (w.alloc (hpb H (.slice a1 H.row.length c1) (.slice a2 H.roots.length c2) (.slice a3 H.mourned.length c3) (.slice a4 H.seen.length c4))),Calls Tryz.prog 170 #[.int .i64 H.half,.int .i64 H.old] x.to fun e w''=>e = .returned (.int .i64 (2*H.half+H.old))∧∃y:Ext (w.alloc (hpb H (.slice a1 H.row.length c1) (.slice a2 H.roots.length c2) (.slice a3 H.mourned.length c3) (.slice a4 H.seen.length c4))).heap.size (w.alloc (hpb H (.slice a1 H.row.length c1) (.slice a2 H.roots.length c2) (.slice a3 H.mourned.length c3) (.slice a4 H.seen.length c4))),w''=y.to):=fun x=>calls_grow (Nat.le_refl _) ((rowLength_int hb1 hb2 x.to).mono fun e w' ⟨he,hw⟩=>⟨he,by rw[hw];exact Below.refl _ _⟩)
   obtain⟨⟨z0,z1,z2,z3,z4⟩,⟨z5,z6,z7,z8⟩⟩:=nine_grow T0
   clear B0 T0 h p1
   go_enter Tryz.func150,Tryz.ntmps150
   go_upto_region 1 with fail
   generalize (w.alloc (hpb H (.slice a1 H.row.length c1) (.slice a2 H.roots.length c2) (.slice a3 H.mourned.length c3) (.slice a4 H.seen.length c4)))=X at *
   haveI:=ext_any X
   refine region_grow (n:=X.heap.size) (by kernel_rfl) (by kernel_rfl) ?_
   repeat (go_big_quiet_step ((first|(go_at_call 169;exact HSZ.out _)|(go_at_call 170;exact HRL.out _))))
   refine wpQuiet_nil ?_
   intro _ hw'
   obtain⟨x,rfl⟩:=hw'
   have HBE:Hid _:=HB0.out.trans (x.below.mono HB0.out.size)
   clear z0 z1 z2 z3 z4 z5 z6 z7 z8
   generalize x.to=W at *
   clear x this
   go_wp2
   go_ret
   exact⟨rfl,HBE.out⟩
  ·cases p3:sideB H
   ·skip
    skip
    rw[show numB H=false by unfold numB;simp[*]]
    have HSZ:Hid (∀x:Ext (w.alloc (hpb H (.slice a1 H.row.length c1) (.slice a2 H.roots.length c2) (.slice a3 H.mourned.length c3) (.slice a4 H.seen.length c4))).heap.size (w.alloc (hpb H (.slice a1 H.row.length c1) (.slice a2 H.roots.length c2) (.slice a3 H.mourned.length c3) (.slice a4 H.seen.length c4))),Calls Tryz.prog 169 #[.int .i64 H.half,.int .i64 H.old] x.to fun e w''=>e = .returned (.bool true)∧∃y:Ext (w.alloc (hpb H (.slice a1 H.row.length c1) (.slice a2 H.roots.length c2) (.slice a3 H.mourned.length c3) (.slice a4 H.seen.length c4))).heap.size (w.alloc (hpb H (.slice a1 H.row.length c1) (.slice a2 H.roots.length c2) (.slice a3 H.mourned.length c3) (.slice a4 H.seen.length c4))),w''=y.to):=fun x=>calls_grow (Nat.le_refl _) ((sizesOk_any H.half H.old x.to).mono fun e w' ⟨he,hw⟩=>⟨by rw[he,p1],by rw[hw];exact Below.refl _ _⟩)
    have HRL:Hid (∀x:Ext (w.alloc (hpb H (.slice a1 H.row.length c1) (.slice a2 H.roots.length c2) (.slice a3 H.mourned.length c3) (.slice a4 H.seen.length c4))).heap.size (w.alloc (hpb H (.slice a1 H.row.length c1) (.slice a2 H.roots.length c2) (.slice a3 H.mourned.length c3) (.slice a4 H.seen.length c4))),Calls Tryz.prog 170 #[.int .i64 H.half,.int .i64 H.old] x.to fun e w''=>e = .returned (.int .i64 (2*H.half+H.old))∧∃y:Ext (w.alloc (hpb H (.slice a1 H.row.length c1) (.slice a2 H.roots.length c2) (.slice a3 H.mourned.length c3) (.slice a4 H.seen.length c4))).heap.size (w.alloc (hpb H (.slice a1 H.row.length c1) (.slice a2 H.roots.length c2) (.slice a3 H.mourned.length c3) (.slice a4 H.seen.length c4))),w''=y.to):=fun x=>calls_grow (Nat.le_refl _) ((rowLength_int hb1 hb2 x.to).mono fun e w' ⟨he,hw⟩=>⟨he,by rw[hw];exact Below.refl _ _⟩)
    have HSD:Hid (∀x:Ext (w.alloc (hpb H (.slice a1 H.row.length c1) (.slice a2 H.roots.length c2) (.slice a3 H.mourned.length c3) (.slice a4 H.seen.length c4))).heap.size (w.alloc (hpb H (.slice a1 H.row.length c1) (.slice a2 H.roots.length c2) (.slice a3 H.mourned.length c3) (.slice a4 H.seen.length c4))),Calls Tryz.prog 171 #[hpv H (.slice a1 H.row.length c1) (.slice a2 H.roots.length c2) (.slice a3 H.mourned.length c3) (.slice a4 H.seen.length c4)] x.to fun e w''=>e = .returned (.bool false)∧∃y:Ext (w.alloc (hpb H (.slice a1 H.row.length c1) (.slice a2 H.roots.length c2) (.slice a3 H.mourned.length c3) (.slice a4 H.seen.length c4))).heap.size (w.alloc (hpb H (.slice a1 H.row.length c1) (.slice a2 H.roots.length c2) (.slice a3 H.mourned.length c3) (.slice a4 H.seen.length c4))),w''=y.to):=fun x=>calls_grow (Nat.le_refl _) ((sideOk_any (hpAt_below h (HB0.out.trans (x.below.mono HB0.out.size)))).mono fun e w' ⟨he,hw⟩=>⟨by rw[he,p3],hw⟩)
    obtain⟨⟨z0,z1,z2,z3,z4⟩,⟨z5,z6,z7,z8⟩⟩:=nine_grow T0
    clear B0 T0 h p1
    go_enter Tryz.func150,Tryz.ntmps150
    go_upto_region 1 with fail
    generalize (w.alloc (hpb H (.slice a1 H.row.length c1) (.slice a2 H.roots.length c2) (.slice a3 H.mourned.length c3) (.slice a4 H.seen.length c4)))=X at *
    haveI:=ext_any X
    refine region_grow (n:=X.heap.size) (by kernel_rfl) (by kernel_rfl) ?_
    repeat (go_big_quiet_step ((first|(go_at_call 169;exact HSZ.out _)|(go_at_call 170;exact HRL.out _)|(go_at_call 171;exact HSD.out _))))
    refine wpQuiet_nil ?_
    intro _ hw'
    obtain⟨x,rfl⟩:=hw'
    have HBE:Hid _:=HB0.out.trans (x.below.mono HB0.out.size)
    clear z0 z1 z2 z3 z4 z5 z6 z7 z8
    generalize x.to=W at *
    clear x this
    go_wp2
    go_ret
    exact⟨rfl,HBE.out⟩
   ·skip
    skip
    rw[show numB H=inR 0 65535 H.seed by unfold numB;simp[*]]
    have HSZ:Hid (∀x:Ext (w.alloc (hpb H (.slice a1 H.row.length c1) (.slice a2 H.roots.length c2) (.slice a3 H.mourned.length c3) (.slice a4 H.seen.length c4))).heap.size (w.alloc (hpb H (.slice a1 H.row.length c1) (.slice a2 H.roots.length c2) (.slice a3 H.mourned.length c3) (.slice a4 H.seen.length c4))),Calls Tryz.prog 169 #[.int .i64 H.half,.int .i64 H.old] x.to fun e w''=>e = .returned (.bool true)∧∃y:Ext (w.alloc (hpb H (.slice a1 H.row.length c1) (.slice a2 H.roots.length c2) (.slice a3 H.mourned.length c3) (.slice a4 H.seen.length c4))).heap.size (w.alloc (hpb H (.slice a1 H.row.length c1) (.slice a2 H.roots.length c2) (.slice a3 H.mourned.length c3) (.slice a4 H.seen.length c4))),w''=y.to):=fun x=>calls_grow (Nat.le_refl _) ((sizesOk_any H.half H.old x.to).mono fun e w' ⟨he,hw⟩=>⟨by rw[he,p1],by rw[hw];exact Below.refl _ _⟩)
    have HRL:Hid (∀x:Ext (w.alloc (hpb H (.slice a1 H.row.length c1) (.slice a2 H.roots.length c2) (.slice a3 H.mourned.length c3) (.slice a4 H.seen.length c4))).heap.size (w.alloc (hpb H (.slice a1 H.row.length c1) (.slice a2 H.roots.length c2) (.slice a3 H.mourned.length c3) (.slice a4 H.seen.length c4))),Calls Tryz.prog 170 #[.int .i64 H.half,.int .i64 H.old] x.to fun e w''=>e = .returned (.int .i64 (2*H.half+H.old))∧∃y:Ext (w.alloc (hpb H (.slice a1 H.row.length c1) (.slice a2 H.roots.length c2) (.slice a3 H.mourned.length c3) (.slice a4 H.seen.length c4))).heap.size (w.alloc (hpb H (.slice a1 H.row.length c1) (.slice a2 H.roots.length c2) (.slice a3 H.mourned.length c3) (.slice a4 H.seen.length c4))),w''=y.to):=fun x=>calls_grow (Nat.le_refl _) ((rowLength_int hb1 hb2 x.to).mono fun e w' ⟨he,hw⟩=>⟨he,by rw[hw];exact Below.refl _ _⟩)
    have HSD:Hid (∀x:Ext (w.alloc (hpb H (.slice a1 H.row.length c1) (.slice a2 H.roots.length c2) (.slice a3 H.mourned.length c3) (.slice a4 H.seen.length c4))).heap.size (w.alloc (hpb H (.slice a1 H.row.length c1) (.slice a2 H.roots.length c2) (.slice a3 H.mourned.length c3) (.slice a4 H.seen.length c4))),Calls Tryz.prog 171 #[hpv H (.slice a1 H.row.length c1) (.slice a2 H.roots.length c2) (.slice a3 H.mourned.length c3) (.slice a4 H.seen.length c4)] x.to fun e w''=>e = .returned (.bool true)∧∃y:Ext (w.alloc (hpb H (.slice a1 H.row.length c1) (.slice a2 H.roots.length c2) (.slice a3 H.mourned.length c3) (.slice a4 H.seen.length c4))).heap.size (w.alloc (hpb H (.slice a1 H.row.length c1) (.slice a2 H.roots.length c2) (.slice a3 H.mourned.length c3) (.slice a4 H.seen.length c4))),w''=y.to):=fun x=>calls_grow (Nat.le_refl _) ((sideOk_any (hpAt_below h (HB0.out.trans (x.below.mono HB0.out.size)))).mono fun e w' ⟨he,hw⟩=>⟨by rw[he,p3],hw⟩)
    have HHS:Hid (∀x:Ext (w.alloc (hpb H (.slice a1 H.row.length c1) (.slice a2 H.roots.length c2) (.slice a3 H.mourned.length c3) (.slice a4 H.seen.length c4))).heap.size (w.alloc (hpb H (.slice a1 H.row.length c1) (.slice a2 H.roots.length c2) (.slice a3 H.mourned.length c3) (.slice a4 H.seen.length c4))),Calls Tryz.prog 72 #[.int .i64 H.seed] x.to fun e w''=>e = .returned (.bool (inR 0 65535 H.seed))∧∃y:Ext (w.alloc (hpb H (.slice a1 H.row.length c1) (.slice a2 H.roots.length c2) (.slice a3 H.mourned.length c3) (.slice a4 H.seen.length c4))).heap.size (w.alloc (hpb H (.slice a1 H.row.length c1) (.slice a2 H.roots.length c2) (.slice a3 H.mourned.length c3) (.slice a4 H.seen.length c4))),w''=y.to):=fun x=>calls_grow (Nat.le_refl _) ((hashInRange_any H.seed x.to).mono fun e w' ⟨he,hw⟩=>⟨he,by rw[hw];exact Below.refl _ _⟩)
    obtain⟨⟨z0,z1,z2,z3,z4⟩,⟨z5,z6,z7,z8⟩⟩:=nine_grow T0
    clear B0 T0 h p1
    generalize inR 0 65535 H.seed=sb at *
    go_enter Tryz.func150,Tryz.ntmps150
    go_upto_region 1 with fail
    generalize (w.alloc (hpb H (.slice a1 H.row.length c1) (.slice a2 H.roots.length c2) (.slice a3 H.mourned.length c3) (.slice a4 H.seen.length c4)))=X at *
    haveI:=ext_any X
    refine region_grow (n:=X.heap.size) (by kernel_rfl) (by kernel_rfl) ?_
    repeat (go_big_quiet_step ((first|(go_at_call 169;exact HSZ.out _)|(go_at_call 170;exact HRL.out _)|(go_at_call 171;exact HSD.out _)|(go_at_call 72;exact HHS.out _))))
    refine wpQuiet_nil ?_
    intro _ hw'
    obtain⟨x,rfl⟩:=hw'
    have HBE:Hid _:=HB0.out.trans (x.below.mono HB0.out.size)
    clear z0 z1 z2 z3 z4 z5 z6 z7 z8
    generalize x.to=W at *
    clear x this
    go_wp2
    go_ret
    exact⟨rfl,HBE.out⟩
end Go.Proofs.YtkiognecebgaiaaGreatDoor.hp
namespace Go.Proofs.YtkiognecebgaiaaGreatDoor.gr
open Go.RowKit rows heads
set_option maxRecDepth 100000
theorem gOk_len {G:Gr} (h:gOk G=true):G.objs.length≤200∧G.roots.length=6∧G.mourned.length≤40∧1≤G.next∧G.next≤100000∧0≤G.seed∧G.seed≤65535:=by
 unfold gOk at h
 simp only[Bool.and_eq_true]at h
 obtain⟨⟨⟨h0,_⟩,_⟩,_⟩:=h
 simp only[gHead,inR,Bool.and_eq_true,decide_eq_true_eq]at h0
 omega
structure Right (G:Gr):Prop where
 head:gHead G=true
 ob:∀i,i<G.objs.length→obOk G.objs G.next i=true
 sl:∀i,i<G.objs.length→∀k,k<(G.objs.getD i obD).slots.length→refOk G.objs ((G.objs.getD i obD).slots.getD k refD)=true
 root:∀i,i<6→refOk G.objs (G.roots.getD i refD)=true
 mo:∀i,i<G.mourned.length→(G.mourned.getD i refD).1=2∧refOk G.objs (G.mourned.getD i refD)=true
theorem right_of {G:Gr} (h:gOk G=true):Right G:=by
 unfold gOk at h
 simp only[Bool.and_eq_true,List.all_eq_true,List.mem_range]at h
 obtain⟨⟨⟨h0,h1⟩,h2⟩,h3⟩:=h
 refine⟨h0,fun i hi=>(h1 i hi).1,fun i hi k hk => ?_,h2,fun i hi => ?_⟩
 ·have:=(h1 i hi).2
  unfold slOk at this
  rw[List.all_eq_true]at this
  exact this k (List.mem_range.2 hk)
 ·have:=h3 i hi
  simpa using this
theorem Right.gOk {G:Gr} (h:Right G):gOk G=true:=by
 refine gOk_yes h.head (fun i hi => ?_) h.root (fun i hi => ?_)
 ·rw[h.ob i hi,slOk_yes (h.sl i hi)]
  rfl
 ·have:=h.mo i hi
  rw[this.1,this.2]
  rfl
theorem obOk_lt {os:List Ob} {next:Int} {i:Nat} (h:obOk os next i=true):lastOf os i<(os.getD i obD).id∧(os.getD i obD).id<next∧(os.getD i obD).fmt≤2∧hok ((os.getD i obD).slots.length:Int) (os.getD i obD).fmt (os.getD i obD).cls (os.getD i obD).hash false false=true:=by
 simp only[obOk,Bool.and_eq_true,decide_eq_true_eq]at h
 exact⟨h.1.1.1,h.1.1.2,h.1.2,h.2⟩
theorem head_mk {G:Gr} (h:G.objs.length≤200∧G.roots.length=6∧G.mourned.length≤40∧1≤G.next∧G.next≤100000∧0≤G.seed∧G.seed≤65535):gHead G=true:=by
 simp only[gHead,inR,Bool.and_eq_true,decide_eq_true_eq]
 omega
end Go.Proofs.YtkiognecebgaiaaGreatDoor.gr
namespace Go.Proofs.YtkiognecebgaiaaGreatDoor.gr
open Go.RowKit rows heads
set_option maxRecDepth 100000
set_option linter.unusedVariables false
def seeO (o:List Int) (r:Rf):List Int:=if r.1=2∧¬r.2 ∈ o then o++[r.2] else o
def seeR (o:List Int) (rs:List Rf):List Int:=rs.foldl seeO o
theorem seeR_app (o:List Int) (a b:List Rf):seeR o (a++b)=seeR (seeR o a) b:=List.foldl_append
theorem take_one {α:Type} {d:α} {l:List α} {i:Nat} (hi:i<l.length):l.take (i+1)=l.take i++[l.getD i d]:=by
 rw[List.take_add_one,List.getElem?_eq_getElem hi,List.getD_eq_getElem?_getD,List.getElem?_eq_getElem hi]
 rfl
theorem seeR_take {o:List Int} {rs:List Rf} {i:Nat} (hi:i<rs.length):seeR o (rs.take (i+1))=seeO (seeR o (rs.take i)) (rs.getD i refD):=by
 rw[take_one (d:=refD) hi,seeR_app]
 rfl
theorem seeO_pre (o:List Int) (r:Rf):∃t,seeO o r=o++t:=by
 unfold seeO
 split
 ·exact⟨_,rfl⟩
 ·exact⟨[],(List.append_nil _).symm⟩
theorem seeR_pre:∀(rs:List Rf) (o:List Int),∃t,seeR o rs=o++t
 | [],o=>⟨[],(List.append_nil _).symm⟩
 |r :: rs,o=>by
  obtain⟨t,h⟩:=seeO_pre o r
  obtain⟨u,h'⟩:=seeR_pre rs (seeO o r)
  refine⟨t++u,?_⟩
  show seeR (seeO o r) rs=_
  rw[h',h,List.append_assoc]
theorem seeO_mem {o:List Int} {r:Rf} (h:r.1=2):r.2 ∈ seeO o r:=by
 unfold seeO
 by_cases e:r.2 ∈ o
 ·rw[if_neg (fun c=>c.2 e)];exact e
 ·rw[if_pos ⟨h,e⟩];simp
theorem seeR_keep {rs:List Rf} {o:List Int} {x:Int} (h:x ∈ o):x ∈ seeR o rs:=by
 obtain⟨t,e⟩:=seeR_pre rs o
 rw[e]
 exact List.mem_append_left _ h
theorem seeR_mem:∀ {rs:List Rf} {o:List Int} {r:Rf},r ∈ rs→r.1=2→r.2 ∈ seeR o rs
 |a :: rs,o,r,h,e=>by
  rcases List.mem_cons.1 h with rfl|h
  ·exact seeR_keep (rs:=rs) (seeO_mem e)
  ·exact seeR_mem (o:=seeO o a) h e
def IdsO (os:List Ob) (o:List Int):Prop:=o.Nodup∧∀x ∈ o,0≤atI os x
theorem idsO_nil (os:List Ob):IdsO os []:=⟨List.nodup_nil,fun x h=>by cases h⟩
theorem idsO_see {os:List Ob} {o:List Int} {r:Rf} (h:IdsO os o) (hr:r.1=2→0≤atI os r.2):IdsO os (seeO o r):=by
 unfold seeO
 split
 ·rename_i e
  refine⟨?_,fun x hx => ?_⟩
  ·rw[List.nodup_append]
   refine⟨h.1,by simp,fun a ha b hb => ?_⟩
   rw[List.mem_singleton]at hb
   subst hb
   rintro rfl
   exact e.2 ha
  ·rcases List.mem_append.1 hx with hx|hx
   ·exact h.2 x hx
   ·rw[List.mem_singleton]at hx
    subst hx
    exact hr e.1
 ·exact h
theorem idsO_seeR {os:List Ob}:∀ {rs:List Rf} {o:List Int},IdsO os o→(∀r ∈ rs,r.1=2→0≤atI os r.2)→IdsO os (seeR o rs)
 | [],o,h,_=>h
 |r :: rs,o,h,hr=>idsO_seeR (rs:=rs) (idsO_see h (hr r (List.mem_cons_self ..))) (fun a ha=>hr a (List.mem_cons_of_mem _ ha))
theorem nodup_in:∀ {M ps:List Nat},M.Nodup→(∀a ∈ M,a ∈ ps)→M.length≤ps.length
 | [],_,_,_=>Nat.zero_le _
 |a :: M,ps,h,hs=>by
  rw[List.nodup_cons]at h
  have ha:a ∈ ps:=hs a (List.mem_cons_self ..)
  have:=nodup_in (M:=M) (ps:=ps.erase a) h.2 (fun b hb=>(List.mem_erase_of_ne (by rintro rfl;exact h.1 hb)).2 (hs b (List.mem_cons_of_mem _ hb)))
  rw[List.length_erase_of_mem ha]at this
  have:=List.length_pos_of_mem ha
  simp only[List.length_cons]
  omega
theorem atI_is {os:List Ob} {id:Int} (h:0≤atI os id):(atI os id).toNat<os.length∧(os.getD (atI os id).toNat obD).id=id:=by
 unfold atI at h ⊢
 cases e:os.findIdx? (fun o=>o.id==id) with
 |none=>rw[e]at h;simp at h
 |some i=>
  obtain⟨hi,hp,_⟩:=List.findIdx?_eq_some_iff_getElem.1 e
  refine⟨by simpa using hi,?_⟩
  show (os.getD ((i:Int).toNat) obD).id=id
  rw[Int.toNat_natCast,List.getD_eq_getElem?_getD,List.getElem?_eq_getElem hi]
  simpa using hp
theorem idsO_len {os:List Ob} {o:List Int} (h:IdsO os o):o.length≤os.length:=by
 have hn:(o.map fun x=>(atI os x).toNat).Nodup:=by
  have:∀l:List Int,l.Nodup→(∀x ∈ l,0≤atI os x)→(l.map fun x=>(atI os x).toNat).Nodup:=by
   intro l
   induction l with
   |nil=>intro _ _;exact List.nodup_nil
   |cons a l ih=>
    intro hn hx
    rw[List.nodup_cons]at hn
    rw[List.map_cons,List.nodup_cons]
    refine⟨fun c => ?_,ih hn.2 (fun x hx'=>hx x (List.mem_cons_of_mem _ hx'))⟩
    obtain⟨b,hb,e⟩:=List.mem_map.1 c
    have h1:=(atI_is (hx a (List.mem_cons_self ..))).2
    have h2:=(atI_is (hx b (List.mem_cons_of_mem _ hb))).2
    rw[e]at h2
    rw[h1]at h2
    subst h2
    exact hn.1 hb
  exact this o h.1 h.2
 have:=nodup_in (ps:=List.range os.length) hn (fun a ha=>by
  obtain⟨x,hx,rfl⟩:=List.mem_map.1 ha
  exact List.mem_range.2 (atI_is (h.2 x hx)).1)
 rwa [List.length_map,List.length_range]at this
def slotsI (os:List Ob) (id:Int):List Rf:=(os.getD (atI os id).toNat obD).slots
def ordF (os:List Ob):Nat→Nat→List Int→List Int
 |0,_,o=>o
 |f+1,k,o=>if k<o.length then ordF os f (k+1) (seeR o (slotsI os (o.getD k 0))) else o
def ordG (G:Gr):List Int:=ordF G.objs (G.objs.length+1) 0 (seeR [] (G.roots++G.mourned))
theorem ordF_next {os:List Ob} {f k:Nat} {o:List Int} (hk:k<o.length):ordF os (f+1) k o=ordF os f (k+1) (seeR o (slotsI os (o.getD k 0))):=by
 show (if k<o.length then _ else _)=_
 rw[if_pos hk]
theorem ordF_end {os:List Ob} {f k:Nat} {o:List Int} (hk:¬k<o.length):ordF os f k o=o:=by
 cases f with
 |zero=>rfl
 |succ f=>
  show (if k<o.length then _ else _)=_
  rw[if_neg hk]
theorem refOk_lead {os:List Ob} {r:Rf} (h:refOk os r=true) (e:r.1=2):0≤atI os r.2:=by
 unfold refOk at h
 rw[if_neg (by omega),if_neg (by omega)]at h
 simp only[Bool.and_eq_true,decide_eq_true_eq]at h
 exact h.2
theorem getD_of_mem {α:Type} {d:α} {l:List α} {x:α} (h:x ∈ l):∃i,i<l.length∧l.getD i d=x:=by
 obtain⟨i,hi,e⟩:=List.getElem_of_mem h
 exact⟨i,hi,by rw[List.getD_eq_getElem?_getD,List.getElem?_eq_getElem hi];exact e⟩
theorem Right.roots6 {G:Gr} (h:Right G):G.roots.length=6:=by
 have:=h.head
 unfold gHead at this
 simp only[Bool.and_eq_true,decide_eq_true_eq]at this
 omega
theorem Right.lead_root {G:Gr} (h:Right G):∀r ∈ G.roots++G.mourned,refOk G.objs r=true:=by
 intro r hr
 rcases List.mem_append.1 hr with hr|hr
 ·obtain⟨i,hi,rfl⟩:=getD_of_mem (d:=refD) hr
  exact h.root i (by rw[h.roots6]at hi;exact hi)
 ·obtain⟨i,hi,rfl⟩:=getD_of_mem (d:=refD) hr
  exact (h.mo i hi).2
theorem Right.lead_slot {G:Gr} (h:Right G) {id:Int} (hid:0≤atI G.objs id):∀r ∈ slotsI G.objs id,refOk G.objs r=true:=by
 intro r hr
 obtain⟨k,hk,rfl⟩:=getD_of_mem (d:=refD) hr
 exact h.sl _ (atI_is hid).1 k hk
structure OrdAt (G:Gr) (k:Nat) (o:List Int):Prop where
 ids:IdsO G.objs o
 at_:k≤o.length
 ord:∃f,f+k=G.objs.length+1∧ordF G.objs f k o=ordG G
theorem ordAt_start {G:Gr} (h:Right G):OrdAt G 0 (seeR [] (G.roots++G.mourned)):=
 ⟨idsO_seeR (idsO_nil _) (fun r hr e=>refOk_lead (h.lead_root r hr) e),Nat.zero_le _,⟨_,rfl,rfl⟩⟩
theorem OrdAt.next {G:Gr} (h:Right G) {k:Nat} {o:List Int} (H:OrdAt G k o) (hk:k<o.length):OrdAt G (k+1) (seeR o (slotsI G.objs (o.getD k 0))):=by
 have hm:o.getD k 0 ∈ o:=by
  rw[List.getD_eq_getElem?_getD,List.getElem?_eq_getElem hk]
  exact List.getElem_mem hk
 have hl:=idsO_len H.ids
 obtain⟨f,hf,e⟩:=H.ord
 refine⟨idsO_seeR H.ids (fun r hr e=>refOk_lead (h.lead_slot (H.ids.2 _ hm) r hr) e),?_,?_⟩
 ·obtain⟨t,e⟩:=seeR_pre (slotsI G.objs (o.getD k 0)) o
  rw[e,List.length_append]
  omega
 ·obtain⟨f',rfl⟩:∃f',f=f'+1:=⟨f-1,by omega⟩
  exact⟨f',by omega,by rw[←ordF_next hk];exact e⟩
theorem OrdAt.end' {G:Gr} {k:Nat} {o:List Int} (H:OrdAt G k o) (hk:¬k<o.length):o=ordG G:=by
 obtain⟨f,_,e⟩:=H.ord
 rw[ordF_end hk]at e
 exact e
theorem ordF_all {G:Gr} (h:Right G):∀(f k:Nat) (o:List Int),f+k=G.objs.length+1→OrdAt G k o→(∀j,j<k→∀r ∈ slotsI G.objs (o.getD j 0),r.1=2→r.2 ∈ o) →
    IdsO G.objs (ordF G.objs f k o)∧(∀x ∈ o,x ∈ ordF G.objs f k o)∧∀x ∈ ordF G.objs f k o,∀r ∈ slotsI G.objs x,r.1=2→r.2 ∈ ordF G.objs f k o
 |0,k,o,hf,H,_=>by
  have:=idsO_len H.ids
  have:=H.at_
  omega
 |f+1,k,o,hf,H,hc=>by
  by_cases hk:k<o.length
  ·rw[ordF_next hk]
   have H':=H.next h hk
   obtain⟨t,e⟩:=seeR_pre (slotsI G.objs (o.getD k 0)) o
   have hg:∀j,j<k+1→(seeR o (slotsI G.objs (o.getD k 0))).getD j 0=o.getD j 0:=fun j hj=>by
    rw[e,List.getD_eq_getElem?_getD,List.getD_eq_getElem?_getD,List.getElem?_append_left (by omega)]
   obtain⟨i1,i2,i3⟩:=ordF_all h f (k+1) _ (by omega) H' (fun j hj r hr e2=>by
    rw[hg j hj]at hr
    by_cases hjk:j=k
    ·subst hjk
     exact seeR_mem hr e2
    ·exact seeR_keep (hc j (by omega) r hr e2))
   exact⟨i1,fun x hx=>i2 x (seeR_keep hx),i3⟩
  ·rw[ordF_end hk]
   refine⟨H.ids,fun x hx=>hx,fun x hx => ?_⟩
   obtain⟨j,hj,rfl⟩:=getD_of_mem (d:=(0:Int)) hx
   exact hc j (by have:=H.at_;omega)
theorem ordG_facts {G:Gr} (h:Right G):IdsO G.objs (ordG G)∧(∀r ∈ G.roots++G.mourned,r.1=2→r.2 ∈ ordG G)∧∀x ∈ ordG G,∀r ∈ slotsI G.objs x,r.1=2→r.2 ∈ ordG G:=by
 obtain⟨a,b,c⟩:=ordF_all h (G.objs.length+1) 0 _ (by omega) (ordAt_start h) (fun j hj=>absurd hj (by omega))
 exact⟨a,fun r hr e=>b _ (seeR_mem hr e),c⟩
def numO (o:List Int) (x:Int):Nat:=o.idxOf x+1
def wordT (o:List Int) (r:Rf):List UInt8:=if r.1=0 then [110] else if r.1=1 then Lib.itoa r.2++[105] else Lib.itoa (numO o r.2)++[111]
def joinT:List (List UInt8)→List UInt8
 | []=>[]
 | [a]=>a
 |a :: b :: l=>a++32 :: joinT (b :: l)
def lineT (ws:List (List UInt8)):List UInt8:=joinT ws++[10]
def objT (os:List Ob) (o:List Int) (id:Int):List UInt8:=
 lineT ([Lib.itoa (os.getD (atI os id).toNat obD).cls,Lib.itoa (os.getD (atI os id).toNat obD).fmt,Lib.itoa (os.getD (atI os id).toNat obD).hash]++(slotsI os id).map (wordT o))
def canT (G:Gr):List UInt8:=lineT ((G.roots++G.mourned).map (wordT (ordG G)))++((ordG G).map (objT G.objs (ordG G))).flatten
theorem joinT_snoc:∀ {ws:List (List UInt8)} {a:List UInt8},ws≠[]→joinT (ws++[a])=joinT ws++32 :: a
 | [b],a,_=>rfl
 |b :: c :: ws,a,_=>by
  show b++32 :: joinT ((c :: ws)++[a])=(b++32 :: joinT (c :: ws))++32 :: a
  rw[joinT_snoc (ws:=c :: ws) (by simp),List.append_assoc]
  rfl
theorem numO_app {o t:List Int} {x:Int} (h:x ∈ o):numO (o++t) x=numO o x:=by
 unfold numO
 rw[List.idxOf_append,if_pos h]
theorem numO_new {o:List Int} {x:Int} (h:¬x ∈ o):numO (o++[x]) x=o.length+1:=by
 unfold numO
 rw[List.idxOf_append,if_neg h]
 simp
theorem numO_le {o:List Int} {x:Int} (h:x ∈ o):numO o x≤o.length:=by
 unfold numO
 have:=List.idxOf_lt_length_of_mem h
 omega
theorem wordT_len {os:List Ob} {o:List Int} {r:Rf} (h:refOk os r=true) (ho:o.length≤1048576) (hm:r.1=2→r.2 ∈ o):(wordT o r).length≤22:=by
 unfold wordT
 split
 ·simp
 ·split
  ·rename_i e0 e1
   unfold refOk at h
   rw[if_neg e0,if_pos e1]at h
   have hb : -100000≤r.2∧r.2≤100000:=by
    unfold inR at h
    simpa using h
   have:=Lib.itoa_length_le r.2 (by omega) (by omega)
   simp only[List.length_append,List.length_cons,List.length_nil]
   omega
  ·rename_i e0 e1
   unfold refOk at h
   rw[if_neg e0,if_neg e1]at h
   simp only[Bool.and_eq_true,beq_iff_eq]at h
   have:=numO_le (hm h.1)
   have:=Lib.itoa_length_le ((numO o r.2:Nat):Int) (by omega) (by omega)
   simp only[List.length_append,List.length_cons,List.length_nil]
   omega
theorem joinT_len:∀ {ws:List (List UInt8)} {n:Nat},(∀a ∈ ws,a.length≤n)→(joinT ws).length≤ws.length*(n+1)
 | [],n,_=>by simp[joinT]
 | [a],n,h=>by
   have:=h a (List.mem_cons_self ..)
   show a.length≤_
   simp only[List.length_cons,List.length_nil]
   omega
 |a :: b :: l,n,h=>by
  have h1:=h a (List.mem_cons_self ..)
  have h2:=joinT_len (ws:=b :: l) (n:=n) (fun x hx=>h x (List.mem_cons_of_mem _ hx))
  show (a++32 :: joinT (b :: l)).length≤_
  simp only[List.length_append,List.length_cons]at h2 ⊢
  rw[Nat.add_mul]at h2 ⊢
  rw[Nat.add_mul]
  omega
theorem lineT_len {ws:List (List UInt8)} {n:Nat} (h:∀a ∈ ws,a.length≤n):(lineT ws).length≤ws.length*(n+1)+1:=by
 have:=joinT_len h
 unfold lineT
 simp only[List.length_append,List.length_cons,List.length_nil]
 omega
end Go.Proofs.YtkiognecebgaiaaGreatDoor.gr
namespace Go.Proofs.YtkiognecebgaiaaGreatDoor.gr
open Go.RowKit rows heads Go.Maps
set_option maxRecDepth 100000
set_option linter.unusedVariables false
set_option linter.unusedSimpArgs false
abbrev kC (p:Int):Lit:=.int .i64 p
theorem kC_key (p:Int):WideAt.IsKeyLit (kC p):=by unfold WideAt.IsKeyLit;simp
theorem kC_ne {p q:Int} (h:p≠q):kC p≠kC q:=fun e=>h (by injection e)
abbrev nC (r:Int):DataW Unit:=.lit (.int .i64 r)
theorem nC_inj {a b:Int} (h:nC a=nC b):a=b:=by injection h with h;injection h
theorem lawC:Keyed Tryz.prog 2:=int_keyed Tryz.underlying2
theorem grownBelC {w w':World} (h:Below w.heap.size w w') (row:Option Nat):w.grownBy w' row:=⟨h.os,h.tape,h.output,h.size,fun k hk _=>h.block k hk⟩
theorem mapC_below {w w':World} {k:TypeId} {R:Value→Option (DataW Unit×List MemPlace)} {b n:Nat} {D:DataW Unit} (h:w.ownsMap Tryz.prog k R b n D) (hb:Below w.heap.size w w'):w'.ownsMap Tryz.prog k R b n D:=World.ownsMap.kept h (grownBelC hb none) (by simp)
abbrev mtb (v:Value) (mb:Nat) (vm:Value):Obj:=.cells #[v,.map (some mb),vm] 76
theorem mtb_cells {W:World} {b:Nat} {v vm:Value} {mb:Nat} (h:W.heap[b]? = some (mtb v mb vm)):(W.cell? ⟨b,0,none⟩=some v∧W.cell? ⟨b,1,none⟩=some (.map (some mb))∧W.cell? ⟨b,2,none⟩=some vm)∧∀k,W.frozen? ⟨b,k,none⟩=false:=by
 refine⟨⟨?_,?_,?_⟩,fun k => ?_⟩<;>simp[World.cell?, World.frozen?, h]
theorem mtb_set {W:World} {b:Nat} {v vm:Value} {mb:Nat} (h:W.heap[b]? = some (mtb v mb vm)) (u:Value):(W.setCell ⟨b,2,none⟩ u).heap[b]? = some (mtb v mb u):=(cells_setCell h 2 u).trans (by simp)
def numI (o:List Int) (p:Int):Int:=if p ∈ o then (numO o p:Int) else 0
theorem numI_new {o:List Int} {p:Int} (h:p ∉ o):numI (o++[p]) p=(o.length:Int)+1:=by
 unfold numI
 rw[if_pos (by simp),numO_new h]
 omega
theorem numI_old {o:List Int} {p q:Int} (h:q≠p):numI (o++[p]) q=numI o q:=by
 unfold numI
 by_cases hq:q ∈ o
 ·rw[if_pos (List.mem_append_left _ hq),if_pos hq,numO_app hq]
 ·rw[if_neg (by simp[hq,h]),if_neg hq]
theorem numI_in {o:List Int} {p:Int} (h:p ∈ o):numI o p=(numO o p:Int):=if_pos h
theorem numI_no {o:List Int} {p:Int} (h:p ∉ o):numI o p=0:=if_neg h
structure NumM (D:DataW Unit) (o:List Int):Prop where
 tidy:Tidy D
 val:∀p:Int,D.atKey (kC p) (nC 0)=nC (numI o p)
theorem NumM.start:NumM (.map []) []:=⟨Maps.tidy_empty,fun a=>rfl⟩
theorem NumM.put {D:DataW Unit} {o:List Int} (h:NumM D o) {p:Int} (hn:p ∉ o):NumM (D.put (kC p) (nC ((o.length:Int)+1))) (o++[p]):=by
 refine⟨h.tidy.put (kC_key _) _,fun q => ?_⟩
 by_cases e:q=p
 ·subst e
  rw[numI_new hn]
  exact Maps.atKey_put_same h.tidy.isMap (kC_key _) _ _
 ·rw[numI_old e,Maps.atKey_put_other (kC_ne e)]
  exact h.val q
def metL (ms:List MO) (G:Gr) (o:List Int):List MO:=o.map fun x=>ms.getD (atI G.objs x).toNat moD
theorem metL_length (ms:List MO) (G:Gr) (o:List Int):(metL ms G o).length=o.length:=List.length_map ..
theorem metL_app (ms:List MO) (G:Gr) (o p:List Int):metL ms G (o++p)=metL ms G o++metL ms G p:=List.map_append
theorem metL_at {ms:List MO} {G:Gr} {o:List Int} {k:Nat} (h:k<o.length):(metL ms G o).getD k moD=ms.getD (atI G.objs (o.getD k 0)).toNat moD:=by
 unfold metL
 rw[List.getD_eq_getElem?_getD,List.getElem?_map,List.getElem?_eq_getElem h,List.getD_eq_getElem?_getD (l:=o),List.getElem?_eq_getElem h]
 rfl
theorem slices_at {ms:List MO} (h:Slices ms) (i:Nat):∃a n c,(ms.getD i moD).sv = .slice a n c:=by
 rcases Nat.lt_or_ge i ms.length with hi|hi
 ·exact h _ (mem_getD hi)
 ·rw[List.getD_eq_getElem?_getD,List.getElem?_eq_none hi]
  exact⟨none,0,0,rfl⟩
structure Mt (W0:World) (base C mb:Nat) (v:Value) (ms:List MO) (G:Gr) (W:World) (o:List Int) (vm:Value):Prop where
 blk':W.heap[C]? = some (mtb v mb vm)
 own:OwnRow W base vm (metL ms G o)
 map:∃D,W.ownsMap Tryz.prog 2 (plainElem Tryz.prog 2) mb o.length D∧NumM D o
 low:Below W0.heap.size W0 W
 bc:W0.heap.size≤C
 bm:W0.heap.size≤mb
 bz:base≤W.heap.size
 nc:C<base
 nm:mb<base
 ne:C≠mb
theorem Mt.below {W0:World} {base C mb:Nat} {v:Value} {ms:List MO} {G:Gr} {W V:World} {o:List Int} {vm:Value} (h:Mt W0 base C mb v ms G W o vm) (hb:Below W.heap.size W V):Mt W0 base C mb v ms G V o vm:=by
 obtain⟨D,hm,hD⟩:=h.map
 exact⟨(hb.block _ (lt_of_block h.blk')).trans h.blk',row_below h.own hb,⟨D,mapC_below hm hb,hD⟩,h.low.trans (hb.mono h.low.size),h.bc,h.bm,Nat.le_trans h.bz hb.size,h.nc,h.nm,h.ne⟩
theorem Mt.look {W0:World} {base C mb:Nat} {v:Value} {ms:List MO} {G:Gr} {W:World} {o:List Int} {vm:Value} (h:Mt W0 base C mb v ms G W o vm) {p:Int} (hp:I64 p):(Instr.lookup 74 (.map (some mb)) (.int .i64 p) false).run Tryz.prog W = .ok (.int .i64 (numI o p)) W:=by
 obtain⟨D,hm,hD⟩:=h.map
 have HKY:keyOf Tryz.prog 2 (.int .i64 p)=some (kC p):=keyOf_int_mk Tryz.underlying2 (WalkArith.wf_i64 hp)
 obtain⟨c,hrun,hat,_⟩:=World.ownsMap.lookup_int hm lawC Tryz.underlying74 Tryz.underlying2 (by kernel_rfl) HKY
 have e:c=numI o p:=nC_inj (hat.symm.trans (hD.val p))
 rw[e]at hrun
 exact hrun
theorem infoOb:(Tryz.prog.info? 47).map (fun i=>(i.zero,i.size,i.bytes))=some (some (ov moD),5,56):=by kernel_rfl
theorem ob_cells {W:World} {b:Nat} {m:MO} (h:W.heap[b]? = some (ob m)):W.cell? ⟨b,0,none⟩=some (.int .i64 m.id)∧W.cell? ⟨b,1,none⟩=some (.int .i64 m.cls)∧W.cell? ⟨b,2,none⟩=some (.int .i64 m.fmt)∧W.cell? ⟨b,3,none⟩=some (.int .i64 m.hash)∧W.cell? ⟨b,4,none⟩=some m.sv:=by
 refine⟨?_,?_,?_,?_,?_⟩<;>simp[World.cell?, h]
theorem news_blockC {w:World} {vb:Nat} {e:MO} (hvb:w.heap[vb]? = some (ob e)):∀j u,(cellsO [e])[j]? = some u→w.cell? ((⟨vb,0,none⟩:Addr).add j)=some u:=World.news_of_block hvb
theorem run_app1C {w:World} {base:Nat} {v:Value} {es:List MO} {vb:Nat} {e:MO} (hown:OwnRow w base v es) (hvb:w.heap[vb]? = some (ob e)) (hsl:Slices [e]) (hl:es.length≤1000000) (hbase:base≤w.heap.size) (ty:TypeId) :
    ∃va vn vc w',(Builtin.append_ #[24,24] ty #[v,.slice (some ⟨vb,0,none⟩) 1 1]).run Tryz.prog w = .ok (.slice va vn vc) w'∧OwnRow w' base (.slice va vn vc) (es++[e])∧Ch (blk v) w w'∧∀k ∈ blk (.slice va vn vc),k ∈ blk v∨w.heap.size≤k:=by
 obtain⟨i0,hi,hz0,hz1,hz2⟩:=info_parts infoOb
 obtain⟨v',w',hr,h2,h3,_,h5⟩:=run_append_own_at (P:=Tryz.prog) w base 24 ty 47 i0 (ov moD) 5 56 Tryz.underlying24 hi hz0 hz1 hz2 rfl (by decide) v es.length (cellsO es) hown ⟨vb,0,none⟩ 1 1 (cellsO [e]) rfl (news_blockC hvb) (cellsO_one hsl) (by unfold maxLen;omega) (by omega) hbase
 have O':OwnRow w' base v' (es++[e]):=by
  show World.ownsRow _ _ _ _ _ _ _
  rw[List.length_append,cellsO_append]
  exact h2
 obtain⟨va,vc,rfl,_⟩:=ownRow_at O'
 refine⟨va,_,vc,w',hr,O',ch_grown h3,fun k hk => ?_⟩
 unfold blk at hk ⊢
 rcases h5 with e|e
 ·rw[e]at hk;exact .inl hk
 ·rw[e]at hk;simp at hk;exact .inr (by omega)
theorem step_app1C {ops:Array Oper} {o:Oper} {a:Act} {w:World} {K:Act→World→Prop} {Q:Exit→Act→World→Prop} {E:Prop} (hgd:o.guard=none) (s x:Operand)
    (ho:o.op = .call { callee:=.builtin .append,args:=#[s,x],argTypes:=#[24,24] })
    (base:Nat) (v:Value) (es:List MO) (hs:a.eval s=v) (hown:OwnRow w base v es) (vb:Nat) (e:MO) (hx:a.eval x = .slice (some ⟨vb,0,none⟩) 1 1) (hvb:w.heap[vb]? = some (ob e)) (hsl:Slices [e]) (hl:es.length≤1000000) (hbase:base≤w.heap.size)
    (h:∀va vn vc w',OwnRow w' base (.slice va vn vc) (es++[e])→Ch (blk v) w w'→(∀k ∈ blk (.slice va vn vc),k ∈ blk v∨w.heap.size≤k)→K (a.put o.dst (.slice va vn vc)) w') :
    if Region.wanted o (yielded ops a.tmps)=true then Oper.wp Tryz.prog o a w K Q else E:=by
 have hw:Region.wanted o (yielded ops a.tmps)=true:=by simp[Region.wanted,hgd]
 rw[if_pos hw]
 obtain⟨va,vn,vc,w',hr,h1,h2,h3⟩:=run_app1C hown hvb hsl hl hbase o.type
 unfold Oper.wp
 simp[execOp,ho,resolve,invoke,builtin,hs,hx,hr,Result.andThen]
 exact h va vn vc w' h1 h2 h3
theorem Mt.more {W0:World} {base C mb:Nat} {v:Value} {ms:List MO} {G:Gr} {W X w6:World} {o:List Int} {vm:Value} (h:Mt W0 base C mb v ms G W o vm) {x:Int} (hd:I64 x) (hn:x ∉ o) (hl:o.length≤1000) (hX:Below W.heap.size W X) {va:Option Addr} {vn vc:Nat}
    (h1:OwnRow w6 base (.slice va vn vc) (metL ms G o++[ms.getD (atI G.objs x).toNat moD])) (h2:Ch (blk vm) X w6) (h3:∀k ∈ blk (.slice va vn vc),k ∈ blk vm∨X.heap.size≤k) :
    w6.heap[C]? = some (mtb v mb vm)∧∃W8,(Instr.mapUpdate 74 (.map (some mb)) (.int .i64 x) (.int .i64 ((o.length:Int)+1))).run Tryz.prog (w6.setCell ⟨C,2,none⟩ (.slice va vn vc)).drew = .ok () W8∧Mt W0 base C mb v ms G W8 (o++[x]) (.slice va vn vc):=by
 have hlt:=lt_of_block h.blk'
 have ob:=blk_lt h.own
 have hnc:=h.nc
 have hnm:=h.nm
 have hbz:=h.bz
 have hXs:=hX.size
 obtain⟨D,hm,hD⟩:=h.map
 have nCC:C ∉ blk vm:=fun hk=>by have:=(ob C hk).1;omega
 have nM:mb ∉ blk vm:=fun hk=>by have:=(ob mb hk).1;omega
 have hM:=hm.lt
 have b6:w6.heap[C]? = some (mtb v mb vm):=(h2.block C (by omega) nCC).trans ((hX.block C hlt).trans h.blk')
 have m6:w6.ownsMap Tryz.prog 2 (plainElem Tryz.prog 2) mb o.length D:=World.ownsMap.kept (row:=vm.ownBlock) (mapC_below hm hX) ⟨h2.os,h2.tape,h2.output,h2.size,fun k hk hn=>h2.block k hk (fun hc=>hn (by unfold blk at hc;exact (Option.mem_toList.1 hc).symm))⟩ (fun e=>nM (by unfold blk;rw[←e];simp))
 have m7:(w6.setCell ⟨C,2,none⟩ (.slice va vn vc)).drew.ownsMap Tryz.prog 2 (plainElem Tryz.prog 2) mb o.length D:=World.ownsMap.drew (World.ownsMap.setCell m6 (a:=⟨C,2,none⟩) (fun e=>h.ne e.symm) _)
 have HKY:keyOf Tryz.prog 2 (.int .i64 x)=some (kC x):=keyOf_int_mk Tryz.underlying2 (WalkArith.wf_i64 hd)
 obtain⟨W8,hrun,m8,g8⟩:=World.ownsMap.update m7 lawC Tryz.underlying74 (by unfold maxLen;omega) HKY (plainElem_int Tryz.underlying2 (WalkArith.wf_i64 (show I64 ((o.length:Int)+1) from ⟨by omega,by omega⟩)))
 have e7:(w6.setCell ⟨C,2,none⟩ (.slice va vn vc)).drew.heap.size=w6.heap.size:=by simp[World.drew,World.setCell]
 have hb7:∀j,j<w6.heap.size→j≠mb→W8.heap[j]? = (w6.setCell ⟨C,2,none⟩ (.slice va vn vc)).heap[j]? := fun j hj hne=>g8.block j (by rw[e7];exact hj) (fun e=>hne (by injection e))
 have hs6:=h2.size
 have o6:=blk_lt h1
 have c7:∀j,j<w6.heap.size→j≠mb→j≠C→W8.heap[j]? = w6.heap[j]? := fun j hj h1 h2=>(hb7 j hj h1).trans (Below.heap_setCell _ _ _ j h2)
 have hs8:=g8.size
 rw[e7]at hs8
 have hlow:=h.low.size
 have hbc:=h.bc
 have hbm:=h.bm
 refine⟨b6,W8,hrun,⟨(hb7 C (by omega) h.ne).trans (mtb_set b6 _),?_,⟨D.put (kC x) (nC ((o.length:Int)+1)),?_,hD.put hn⟩,?_,h.bc,h.bm,by omega,h.nc,h.nm,h.ne⟩⟩
 ·rw[metL_app]
  exact row_ch (S:=[C,mb]) h1 ⟨g8.os,g8.tape,g8.output,by omega,fun j hj hn=>c7 j hj (fun e=>hn (by simp[e])) (fun e=>hn (by simp[e]))⟩ (fun j hj hc=>by
   have:=(o6 j hj).1
   have e:j=C∨j=mb:=by simpa using hc
   omega)
 ·rw[List.length_append]
  exact m8
 ·exact⟨g8.os.trans (h2.os.trans (hX.os.trans h.low.os)),g8.tape.trans (h2.tape.trans (hX.tape.trans h.low.tape)),g8.output.trans (h2.output.trans (hX.output.trans h.low.output)),by omega,fun j hj=>by
    have hjb:j ∉ blk vm:=fun hk=>by have:=(ob j hk).1;omega
    rw[c7 j (by omega) (by omega) (by omega),h2.block j (by omega) hjb,hX.block j (by omega),h.low.block j hj]⟩
end Go.Proofs.YtkiognecebgaiaaGreatDoor.gr
namespace Go.Proofs.YtkiognecebgaiaaGreatDoor.gr
open Go.RowKit rows ents
set_option maxRecDepth 100000
set_option linter.unusedVariables false
set_option linter.unusedSimpArgs false
def cellsT (ss:List (List UInt8)):List Value:=ss.map fun s => .string (bs s)
theorem cellsT_length (ss:List (List UInt8)):(cellsT ss).length=ss.length:=List.length_map ..
def StrsAt (w:World) (v:Value) (ss:List (List UInt8)):Prop:=
 ∃a cap,v = .slice a ss.length cap∧ss.length≤cap∧cap≤maxLen∧(a=none→cap=0) ∧
  (0<ss.length→∃b off,a=some ⟨b,off,none⟩∧b<w.heap.size∧∀i,i<ss.length→w.cell? ⟨b,off+i,none⟩=some (.string (bs (ss.getD i []))))
theorem strsAt_below {w w':World} {v:Value} {ss:List (List UInt8)} (h:StrsAt w v ss) (hb:Below w.heap.size w w'):StrsAt w' v ss:=by
 obtain⟨a,cap,rfl,h1,h2,h4,h3⟩:=h
 refine⟨a,cap,rfl,h1,h2,h4,fun hp => ?_⟩
 obtain⟨b,off,rfl,hlt,hc⟩:=h3 hp
 exact⟨b,off,rfl,Nat.lt_of_lt_of_le hlt hb.size,fun i hi=>(hb.cell (p:=⟨b,off+i,none⟩) hlt).trans (hc i hi)⟩
def OwnT (w:World) (base:Nat) (v:Value) (ss:List (List UInt8)):Prop:=w.ownsRow base 9 1 v ss.length (cellsT ss)
theorem ownT_strs {w:World} {base:Nat} {v:Value} {ss:List (List UInt8)} (h:OwnT w base v ss):StrsAt w v ss:=by
 have h':=h
 obtain⟨_,⟨rfl,hn⟩|⟨g,cap,cur,rfl,hg,hh,hle,hm,hs,ht⟩⟩:=h
 ·have:ss=[]:=by simpa using hn
  subst this
  exact⟨none,0,rfl,by simp,by decide,fun _=>rfl,fun hp=>absurd hp (by simp)⟩
 ·refine⟨_,cap,rfl,hle,hm,fun h=>(by cases h),fun hp=>⟨g,0,rfl,lt_of_block hh,fun i hi => ?_⟩⟩
  have:=World.ownsRow.cellAt h' i (by omega)
  rw[Nat.zero_add,this]
  simp[cellsT,List.getD_eq_getElem?_getD,List.getElem?_eq_getElem hi]
theorem joinT_take {ws:List (List UInt8)} {i:Nat} (hi:i<ws.length):joinT (ws.take (i+1))=if i=0 then ws.getD 0 [] else joinT (ws.take i)++32 :: ws.getD i []:=by
 rw[take_one (d:=([]:List UInt8)) hi]
 split
 ·rename_i h
  subst h
  rfl
 ·rename_i h
  refine joinT_snoc (fun e => ?_)
  have:=congrArg List.length e
  rw[List.length_take]at this
  have h2:min i ws.length=0:=this
  omega
set_option maxHeartbeats 4000000 in
theorem l6Line_any {w:World} {v:Value} {ws:List (List UInt8)} (h:StrsAt w v ws) (hw:∀a ∈ ws,a.length≤100) (hl:ws.length≤4194304) :
    Calls Tryz.prog 88 #[v] w fun e w'=>e = .returned (.string (bs (lineT ws)))∧w'=w:=by
 have h':=h
 obtain⟨a,cap,rfl,h1,h2,h4,h3⟩:=h
 obtain⟨n,hn⟩:∃n,ws.length=n:=⟨_,rfl⟩
 have HJ:Hid (∀i,i≤n→(joinT (ws.take i)).length≤n*101):=fun i hi=>by
  have:=joinT_len (ws:=ws.take i) (n:=100) (fun a ha=>hw a (List.mem_of_mem_take ha))
  rw[List.length_take]at this
  refine Nat.le_trans this (Nat.mul_le_mul_right _ (by omega))
 have HW:Hid (∀i,i<n→(ws.getD i []).length≤100):=fun i hi=>by
  have:ws.getD i [] ∈ ws:=by rw[List.getD_eq_getElem?_getD,List.getElem?_eq_getElem (by omega)];exact List.getElem_mem _
  exact hw _ this
 have HN:Hid _:=hn
 rw[hn]at h3 hl h1 ⊢
 have HC:Hid _:=h3
 clear h3 h4 h1 h2 hw h' hn
 go_enter Tryz.func88,Tryz.ntmps88
 go_wp2_with fail
 go_loop [3,4] (fun p q=>∃(i:Nat) (sb:ByteArray),q = .int .i64 (i:Int)∧p = .string sb∧i≤n∧sb=bs (joinT (ws.take i))) (fun _ q=>n-(intOf q).toNat)
 case atStart=>exact⟨0,_,rfl,rfl,Nat.zero_le _,rfl⟩
 case round=>
  obtain⟨i,sb,rfl,rfl,hi,hsb⟩:=hrel
  have hsz:sb.size≤n*101:=by rw[hsb,bs_size];exact HJ.out i hi
  have HSB:Hid _:=hsb
  clear hsb
  by_cases hlt:i<n
  ·obtain⟨b,off,rfl,hb,hc⟩:=HC.out (by omega)
   have x0:=hc i hlt
   have hws:=HW.out i hlt
   have hbz:(bs (ws.getD i [])).size≤100:=by rw[bs_size];exact hws
   have hT:=joinT_take (ws:=ws) (i:=i) (by rw[HN.out];exact hlt)
   have HX:Hid _:=hT
   have HA:Hid (bs (ws.getD i [])=bs (ws.getD i [])):=rfl
   obtain⟨wb,hwb⟩:∃wb,bs (ws.getD i [])=wb:=⟨_,rfl⟩
   rw[hwb]at x0 hbz
   have HWB:Hid _:=hwb
   have hlt2:(i:Int)<(n:Int):=by omega
   have z32:(⟨#[32]⟩:ByteArray).size=1:=rfl
   clear hc hT hwb hws HA
   by_cases h0:i=0
   ·subst h0
    obtain rfl:sb=⟨#[]⟩:=by rw[HSB.out];rfl
    replace x0:w.cell? ⟨b,off,none⟩=some (.string wb):=x0
    have hs1:¬(⟨#[]⟩:ByteArray).size+wb.size > 9223372036854775807:=by
     have:(⟨#[]⟩:ByteArray).size=0:=rfl
     omega
    go_wp2
    exact⟨⟨1,_,by go_num,rfl,by omega,by rw[HX.out,if_pos rfl,←HWB.out];exact bs_append [] _⟩,by simp[intOf];omega⟩
   ·have h0':(i:Int) > 0:=by omega
    have hs1:¬sb.size+(⟨#[32]⟩:ByteArray).size > 9223372036854775807:=by omega
    have hsp:(sb++⟨#[32]⟩).size=sb.size+1:=by rw[ByteArray.size_append,z32]
    have hs2:¬(sb++⟨#[32]⟩).size+wb.size > 9223372036854775807:=by omega
    have HR:Hid ((sb++⟨#[32]⟩)++wb=bs (joinT (ws.take (i+1)))):=by
     show _=_
     rw[HX.out,if_neg h0,←HWB.out,HSB.out]
     rw[show (⟨#[32]⟩:ByteArray)=bs [32] from rfl,bs_append,bs_append,List.append_assoc]
     rfl
    go_wp2
    exact⟨⟨i+1,_,by go_num,rfl,by omega,HR.out⟩,by simp[intOf];omega⟩
  ·obtain rfl:i=n:=by omega
   have hlt2:¬(i:Int)<(i:Int):=by omega
   have z10:(⟨#[10]⟩:ByteArray).size=1:=rfl
   have hs1:¬sb.size+(⟨#[10]⟩:ByteArray).size > 9223372036854775807:=by omega
   have HR:Hid (sb++⟨#[10]⟩=bs (lineT ws)):=by
    show _=_
    have e:joinT (ws.take i)=joinT ws:=by rw[List.take_of_length_le (by rw[HN.out];exact Nat.le_refl _)]
    rw[HSB.out,e]
    exact bs_append _ [10]
   go_wp2
   go_ret
   exact⟨by rw[←HR.out];rfl,rfl⟩
theorem infoS:(Tryz.prog.info? 9).map (fun i=>(i.zero,i.size,i.bytes))=some (some (.string ⟨#[]⟩),1,16):=by kernel_rfl
theorem idx_first:∀(o:List Int) (x:Int) (k:Nat),k<o.idxOf x→o.getD k 0≠x
 | [],x,k,h=>by simp at h
 |a :: o,x,k,h=>by
  rw[List.idxOf_cons]at h
  by_cases e:(a==x)=true
  ·simp[e]at h
  ·cases k with
   |zero=>simpa using e
   |succ k=>
    have:=idx_first o x k (by simp[e]at h;omega)
    simpa using this
theorem itoa_len (x:Int) (h:I64 x):(Lib.itoa x).length≤21:=Lib.itoa_length_le x h.1 h.2
theorem push_t {w X:World} {v:Value} {ws:List (List UInt8)} {wd:List UInt8} (O:OwnT X w.heap.size v ws) (B:Below w.heap.size w X) :
    OwnT (X.alloc (.cells #[.string (bs wd)] 9)) w.heap.size v ws∧(∀i u,[Value.string (bs wd)][i]? = some u→(X.alloc (.cells #[.string (bs wd)] 9)).cell? ((⟨X.heap.size,0,none⟩:Addr).add i)=some u)∧w.heap.size≤(X.alloc (.cells #[.string (bs wd)] 9)).heap.size ∧
    ∀v' w6,w6.ownsRow w.heap.size 9 1 v' (ws.length+1) (cellsT ws++[Value.string (bs wd)])→(X.alloc (.cells #[.string (bs wd)] 9)).grownBy w6 v.ownBlock→(∃a n c,v' = .slice a n c)∧OwnT w6 w.heap.size v' (ws++[wd])∧Below w.heap.size w w6:=by
 have BX:Below X.heap.size X (X.alloc (.cells #[.string (bs wd)] 9)):=(Below.refl _ _).alloc (Nat.le_refl _) _
 have B6:Below w.heap.size w (X.alloc (.cells #[.string (bs wd)] 9)):=B.alloc B.size _
 have hlt:=World.ownsRow.lt O
 refine⟨row_ch (S:=[]) O (ch_below BX) (by simp),World.news_of_block (heap_alloc_new X _),B6.size,fun v' w6 o6 g6=>⟨?_,?_,?_⟩⟩
 ·obtain⟨_,⟨f1,f2⟩|⟨g',c',cur',f1,_⟩⟩:=o6
  ·omega
  ·exact⟨_,_,_,f1⟩
 ·unfold OwnT
  rw[List.length_append]
  show w6.ownsRow _ _ _ _ (ws.length+1) _
  have e:cellsT (ws++[wd])=cellsT ws++[Value.string (bs wd)]:=by unfold cellsT;rw[List.map_append];rfl
  rw[e]
  exact o6
 ·exact B6.grown g6 B6.size (fun k hk=>(hlt k hk).1)
set_option maxHeartbeats 8000000 in
theorem l6Words_any {w:World} {vo vl:Value} {o:List Int} {rs:List Rf} (ho:IntsAt w vo o) (hr:RefsAt w vl rs) (hk:∀r ∈ rs,(r.1=0∨r.1=1∨r.1=2)∧I64 r.2∧(r.1=2→r.2 ∈ o)) (hlo:o.length≤1048576) (hlr:rs.length≤1048576) :
    Calls Tryz.prog 89 #[vo,vl] w fun e w'=>∃u,e = .returned u∧OwnT w' w.heap.size u (rs.map (wordT o))∧Below w.heap.size w w':=by
 obtain⟨a,ca,rfl,_,_,_,hcO⟩:=ho
 obtain⟨b,cb,rfl,_,_,_,hcR⟩:=hr
 have HO:Hid _:=hcO
 have HR:Hid _:=hcR
 have HK:Hid _:=hk
 clear hcO hcR hk
 have O0:OwnT (w.alloc (.cells #[] 9)) w.heap.size (.slice (some ⟨w.heap.size,0,none⟩) 0 0) []:=⟨rfl,.inr ⟨w.heap.size,0,#[],rfl,Nat.le_refl _,heap_alloc_new w _,Nat.le_refl _,by decide,rfl,rfl⟩⟩
 have B0:Below w.heap.size w (w.alloc (.cells #[] 9)):=(Below.refl _ _).alloc (Nat.le_refl _) _
 have HO0:Hid _:=O0
 have HB0:Hid _:=B0
 clear O0 B0
 obtain⟨n,hn⟩:∃n,rs.length=n:=⟨_,rfl⟩
 rw[hn]at hlr HR ⊢
 have HN:Hid _:=hn
 clear hn
 obtain⟨i0,hi,hz0,hz1,hz2⟩:=info_parts infoS
 have HI0:Hid _:=And.intro hi (And.intro hz0 (And.intro hz1 hz2))
 clear hi hz0 hz1 hz2
 go_enter Tryz.func89,Tryz.ntmps89
 go_wp2_with fail
 go_loopw [5,6] (fun v5 v6 wr=>∃(i:Nat) (a5:Option Addr) (n5 c5:Nat),v6 = .int .i64 (i:Int)∧i≤n∧v5 = .slice a5 n5 c5∧OwnT wr w.heap.size (.slice a5 n5 c5) ((rs.take i).map (wordT o))∧Below w.heap.size w wr) (fun _ v6 _=>n-(intOf v6).toNat)
 case atStart=>exact⟨0,_,_,_,rfl,Nat.zero_le _,rfl,HO0.out,HB0.out⟩
 case round=>
  obtain⟨i,a5,n5,c5,rfl,hin,rfl,hO,hB⟩:=hrel
  have HOW:Hid _:=hO
  have HB:Hid _:=hB
  clear hO hB
  by_cases hlt:i<n
  ·obtain⟨rb,ro,rfl,hrb,hrc⟩:=HR.out (by omega)
   obtain⟨x0,x1⟩:=hrc i hlt
   have x0:=(HB.out.cell (p:=⟨rb,ro+i*2,none⟩) hrb).trans x0
   have x1:=(HB.out.cell (p:=⟨rb,ro+i*2+1,none⟩) hrb).trans x1
   have hmem:rs.getD i refD ∈ rs:=by rw[List.getD_eq_getElem?_getD,List.getElem?_eq_getElem (by rw[HN.out];exact hlt)];exact List.getElem_mem _
   obtain⟨k1,k2,k3⟩:=HK.out _ hmem
   have ht:(rs.take (i+1)).map (wordT o)=(rs.take i).map (wordT o)++[wordT o (rs.getD i refD)]:=by rw[take_one (d:=refD) (by rw[HN.out];exact hlt),List.map_append];rfl
   have hlen:((rs.take i).map (wordT o)).length=i:=by rw[List.length_map,List.length_take,HN.out];omega
   have HT:Hid _:=ht
   have HL:Hid _:=hlen
   have hi2:(i:Int)<(n:Int):=by omega
   obtain⟨⟨kd,x⟩,hkx⟩:∃r:Rf,rs.getD i refD=r:=⟨_,rfl⟩
   rw[hkx]at x0 x1 k1 k2 k3 HT
   simp only at x0 x1 k1 k2 k3
   clear hrc hmem ht hlen hkx
   generalize (rs.take i).map (wordT o)=ws at *
   rcases k1 with rfl|rfl|rfl
   ·obtain⟨q1,q2,q3,q4⟩:=push_t (wd:=[110]) HOW.out HB.out
    have Q1:Hid _:=q1
    have Q2:Hid _:=q2
    have Q4:Hid _:=q4
    clear q1 q2 q4 k2 k3 x1
    go_wp2_with (refine wpList_append_own_at _ rfl (.tmp 41) (.tmp 42) 78 rfl w.heap.size 9 i0 (.string ⟨#[]⟩) 1 16 Tryz.underlying78 HI0.out.1 HI0.out.2.1 HI0.out.2.2.1 HI0.out.2.2.2 rfl (by decide) (.slice a5 n5 c5) ws.length (cellsT ws) rfl Q1.out ⟨wr.heap.size,0,none⟩ 1 1 [.string (bs [110])] rfl rfl Q2.out (by simp[Value.oneCell']) (by have:=HL.out;unfold maxLen;omega) (by have:=HL.out;omega) q3 ?_;intro v' w6 hown hgrow _ hat;obtain⟨⟨va,vn,vc,rfl⟩,st⟩:=Q4.out v' w6 hown hgrow;have HST:Hid _:=st;clear st hown hgrow hat)
    exact⟨⟨i+1,_,_,_,by go_num,by omega,rfl,by rw[HT.out];exact HST.out.1,HST.out.2⟩,by simp[intOf];omega⟩
   ·have LI:=l1IntT_any x k2 wr
    have HK2:Hid _:=k2
    have hz:=itoa_len x k2
    obtain⟨T1,hT1⟩:∃T1,Lib.itoa x=T1:=⟨_,rfl⟩
    have HT1:Hid _:=hT1
    rw[hT1]at LI hz
    clear k3 k2 hT1
    have hbz:(bs T1).size=T1.length:=bs_size T1
    have h105:(⟨#[105]⟩:ByteArray).size=1:=rfl
    have hss:¬(bs T1).size+(⟨#[105]⟩:ByteArray).size > 9223372036854775807:=by omega
    have HAP:Hid (bs T1++(⟨#[105]⟩:ByteArray)=bs (T1++[105])):=bs_append T1 [105]
    have PF:Hid (∀X,Below wr.heap.size wr X→OwnT X w.heap.size (.slice a5 n5 c5) ws∧Below w.heap.size w X):=fun X hX=>⟨row_ch (S:=[]) HOW.out (ch_below hX) (by simp),HB.out.trans (hX.mono HB.out.size)⟩
    generalize hB1:bs T1=B1 at *
    go_wp2_with (first
     |(go_at_call 91;refine LI.mono ?_;clear LI;rintro e w2 ⟨rfl,b2⟩;obtain⟨q1,q2,q3,q4⟩:=push_t (wd:=T1++[105]) (PF.out w2 b2).1 (PF.out w2 b2).2;have Q1:Hid _:=q1;have Q2:Hid _:=q2;have Q3:Hid _:=q3;have Q4:Hid _:=q4;clear q1 q2 q3 q4 b2;have hap:=HAP.out)
     |(refine wpList_append_own_at _ rfl (.tmp 46) (.tmp 54) 78 rfl w.heap.size 9 i0 (.string ⟨#[]⟩) 1 16 Tryz.underlying78 HI0.out.1 HI0.out.2.1 HI0.out.2.2.1 HI0.out.2.2.2 rfl (by decide) (.slice a5 n5 c5) ws.length (cellsT ws) rfl Q1.out ⟨w2.heap.size,0,none⟩ 1 1 [.string (bs (T1++[105]))] rfl rfl Q2.out (by simp[Value.oneCell']) (by have:=HL.out;unfold maxLen;omega) (by have:=HL.out;omega) Q3.out ?_;intro v' w6 hown hgrow _ hat;obtain⟨⟨va,vn,vc,rfl⟩,st⟩:=Q4.out v' w6 hown hgrow;have HST:Hid _:=st;clear st hown hgrow hat))
    exact⟨⟨i+1,_,_,_,by go_num,by omega,rfl,by rw[HT.out,show wordT o (1,x)=T1++[105] by rw[←HT1.out];rfl];exact HST.out.1,HST.out.2⟩,by simp[intOf];omega⟩
   ·have hx:x ∈ o:=k3 rfl
    obtain⟨ix,hix⟩:∃ix,o.idxOf x=ix:=⟨_,rfl⟩
    have hlx:ix<o.length:=by rw[←hix];exact List.idxOf_lt_length_iff.2 hx
    have hgx:o.getD ix 0=x:=by
     subst hix
     rw[List.getD_eq_getElem?_getD,List.getElem?_eq_getElem hlx]
     exact List.getElem_idxOf hlx
    have hnx:∀k,k<ix→o.getD k 0≠x:=fun k hk=>idx_first o x k (by omega)
    obtain⟨ob,oo,rfl,hob,hoc⟩:=HO.out (by omega)
    have HOC:Hid (∀k,k<o.length→wr.cell? ⟨ob,oo+k,none⟩=some (.int .i64 (o.getD k 0))):=fun k hk=>(HB.out.cell (p:=⟨ob,oo+k,none⟩) hob).trans (hoc k hk)
    have HGX:Hid _:=hgx
    have HNX:Hid _:=hnx
    have HIX:Hid _:=hix
    have X0:Hid _:=x0
    have X1:Hid _:=x1
    clear k2 k3 hx hix hgx hnx hoc
    go_upto_region 6 with fail
    go_wp2_with fail
    go_loopw [7] (fun v7 wz=>∃k:Nat,v7 = .int .i64 (k:Int)∧k≤ix∧∃m,wz=wr.drewN m) (fun v7 _=>ix-(intOf v7).toNat)
    case atStart=>exact⟨0,rfl,Nat.zero_le _,0,rfl⟩
    case round=>
     obtain⟨k,rfl,hk,m,rfl⟩:=hrel
     have c1:wr.cell? ⟨ob,oo+k,none⟩=some (.int .i64 (o.getD k 0)):=HOC.out k (by omega)
     have c2:wr.cell? ⟨rb,ro+i*2+1,none⟩=some (.int .i64 x):=X1.out
     have hko:(k:Int)<(o.length:Int):=by omega
     obtain⟨y,hy⟩:∃y,o.getD k 0=y:=⟨_,rfl⟩
     have HY:Hid _:=hy
     rw[hy]at c1
     clear hy x0 x1
     by_cases hyx:y=x
     ·subst hyx
      have hkx:k=ix:=by
       rcases Nat.lt_or_ge k ix with h|h
       ·exact absurd HY.out (HNX.out k h)
       ·omega
      subst hkx
      go_upto_region 7 with fail
      go_quiet (fail)
      go_upto_region 9 with fail
      generalize hVV:(wr.drewN _).drewN _=VV
      have BV:Below wr.heap.size wr VV:=by rw[←hVV];exact⟨rfl,rfl,rfl,Nat.le_refl _,fun _ _=>rfl⟩
      have PF:Hid (∀X,Below VV.heap.size VV X→OwnT X w.heap.size (.slice a5 n5 c5) ws∧Below w.heap.size w X):=fun X hX=>by
       have hB:=BV.trans (hX.mono BV.size)
       exact⟨row_ch (S:=[]) HOW.out (ch_below hB) (by simp),HB.out.trans (hB.mono HB.out.size)⟩
      have hi64:I64 ((k:Int)+1):=by unfold I64;omega
      have LI:=l1IntT_any ((k:Int)+1) hi64 VV
      have hz:=itoa_len _ hi64
      obtain⟨T1,hT1⟩:∃T1,Lib.itoa ((k:Int)+1)=T1:=⟨_,rfl⟩
      have HT1:Hid _:=hT1
      rw[hT1]at LI hz
      have HNM:Hid (wordT o (2,y)=T1++[111]):=by
       show _=_
       rw[←HT1.out]
       show Lib.itoa ((numO o y:Nat):Int)++[111]=_
       unfold numO
       rw[HIX.out]
       rfl
      clear hT1 hi64 BV hVV c1 c2
      have hbz:(bs T1).size=T1.length:=bs_size T1
      have h111:(⟨#[111]⟩:ByteArray).size=1:=rfl
      have hss:¬(bs T1).size+(⟨#[111]⟩:ByteArray).size > 9223372036854775807:=by omega
      have HAP:Hid (bs T1++(⟨#[111]⟩:ByteArray)=bs (T1++[111])):=bs_append T1 [111]
      generalize hB1:bs T1=B1 at *
      go_wp2_with (first
       |(go_at_call 91;refine LI.mono ?_;clear LI;rintro e w2 ⟨rfl,b2⟩;obtain⟨q1,q2,q3,q4⟩:=push_t (wd:=T1++[111]) (PF.out w2 b2).1 (PF.out w2 b2).2;have Q1:Hid _:=q1;have Q2:Hid _:=q2;have Q3:Hid _:=q3;have Q4:Hid _:=q4;clear q1 q2 q3 q4 b2;have hap:=HAP.out)
       |(refine wpList_append_own_at _ rfl (.tmp 32) (.tmp 37) 78 rfl w.heap.size 9 i0 (.string ⟨#[]⟩) 1 16 Tryz.underlying78 HI0.out.1 HI0.out.2.1 HI0.out.2.2.1 HI0.out.2.2.2 rfl (by decide) (.slice a5 n5 c5) ws.length (cellsT ws) rfl Q1.out ⟨w2.heap.size,0,none⟩ 1 1 [.string (bs (T1++[111]))] rfl rfl Q2.out (by simp[Value.oneCell']) (by have:=HL.out;unfold maxLen;omega) (by have:=HL.out;omega) Q3.out ?_;intro v' w6 hown hgrow _ hat;obtain⟨⟨va,vn,vc,rfl⟩,st⟩:=Q4.out v' w6 hown hgrow;have HST:Hid _:=st;clear st hown hgrow hat))
      exact⟨⟨i+1,_,_,_,by go_num,by omega,rfl,by rw[HT.out,HNM.out];exact HST.out.1,HST.out.2⟩,by simp[intOf];omega⟩
     ·go_upto_region 7 with fail
      go_quiet (fail)
      have hklt:k<ix:=by
       rcases Nat.lt_or_eq_of_le hk with h|h
       ·exact h
       ·exact absurd (by rw[←HY.out,h];exact HGX.out) hyx
      go_wp2
      exact⟨⟨k+1,by go_num,by omega,_,rfl⟩,by simp[intOf];omega⟩
  ·have hlt2:¬(i:Int)<(n:Int):=by omega
   have e:rs.take i=rs:=List.take_of_length_le (by rw[HN.out];omega)
   have HE:Hid _:=e
   clear e
   go_wp2
   go_ret
   exact⟨_,rfl,by rw[←HE.out];exact HOW.out,HB.out⟩
end Go.Proofs.YtkiognecebgaiaaGreatDoor.gr
