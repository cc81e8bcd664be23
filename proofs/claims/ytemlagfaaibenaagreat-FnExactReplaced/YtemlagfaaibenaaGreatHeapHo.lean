/-
  A heap that was gone through: a heap's nine cells and its rooms' two.
  Made from the template HeapHo.
-/
import Derived.Test.YtemlagfaaibenaaGreatM20
namespace Go.Proofs.YtemlagfaaibenaaGreat.hp
open Go.RowKit rows heads words walks
set_option maxRecDepth 100000
set_option linter.unusedVariables false
set_option linter.unusedSimpArgs false
abbrev hov (H:Hp) (vr vo vm vs:Value) (up:Int) (v:Value):Value:=.agg #[.int .i64 H.half,.int .i64 H.old,vr,.int .i64 H.side,.int .i64 H.top,vo,vm,vs,.int .i64 H.seed,.int .i64 up,v]
abbrev hob (H:Hp) (vr vo vm vs:Value) (up:Int) (v:Value):Obj:=.cells #[.int .i64 H.half,.int .i64 H.old,vr,.int .i64 H.side,.int .i64 H.top,vo,vm,vs,.int .i64 H.seed,.int .i64 up,v] 57
abbrev hz:Hp:=⟨0,0,[],0,0,[],[],[],0⟩
abbrev s0:Value:=.slice none 0 0
abbrev hov0:Value:=hov hz s0 s0 s0 s0 0 s0
theorem hob_cells {W:World} {b:Nat} {H:Hp} {vr vo vm vs:Value} {up:Int} {v:Value} (h:W.heap[b]? = some (hob H vr vo vm vs up v)):(W.cell? ⟨b,0,none⟩=some (.int .i64 H.half)∧W.cell? ⟨b,1,none⟩=some (.int .i64 H.old)∧W.cell? ⟨b,2,none⟩=some vr∧W.cell? ⟨b,3,none⟩=some (.int .i64 H.side)∧W.cell? ⟨b,4,none⟩=some (.int .i64 H.top)∧W.cell? ⟨b,5,none⟩=some vo∧W.cell? ⟨b,6,none⟩=some vm∧W.cell? ⟨b,7,none⟩=some vs∧W.cell? ⟨b,8,none⟩=some (.int .i64 H.seed)∧W.cell? ⟨b,9,none⟩=some (.int .i64 up)∧W.cell? ⟨b,10,none⟩=some v)∧W.frozen? ⟨b,0,none⟩=false∧W.frozen? ⟨b,1,none⟩=false∧W.frozen? ⟨b,2,none⟩=false∧W.frozen? ⟨b,3,none⟩=false∧W.frozen? ⟨b,4,none⟩=false∧W.frozen? ⟨b,5,none⟩=false∧W.frozen? ⟨b,6,none⟩=false∧W.frozen? ⟨b,7,none⟩=false∧W.frozen? ⟨b,8,none⟩=false∧W.frozen? ⟨b,9,none⟩=false∧W.frozen? ⟨b,10,none⟩=false:=by
 refine⟨⟨?_,?_,?_,?_,?_,?_,?_,?_,?_,?_,?_⟩,?_,?_,?_,?_,?_,?_,?_,?_,?_,?_,?_⟩<;>simp[World.cell?, World.frozen?, h]
def hoSet (W:World) (b:Nat) (H:Hp) (vr vo vm vs:Value) (up:Int) (v:Value):World:=((((((((((W.setCell ⟨b,0,none⟩ (.int .i64 H.half)).setCell ⟨b,1,none⟩ (.int .i64 H.old)).setCell ⟨b,2,none⟩ vr).setCell ⟨b,3,none⟩ (.int .i64 H.side)).setCell ⟨b,4,none⟩ (.int .i64 H.top)).setCell ⟨b,5,none⟩ vo).setCell ⟨b,6,none⟩ vm).setCell ⟨b,7,none⟩ vs).setCell ⟨b,8,none⟩ (.int .i64 H.seed)).setCell ⟨b,9,none⟩ (.int .i64 up)).setCell ⟨b,10,none⟩ v
theorem hob_set {W:World} {b:Nat} {H0:Hp} {r0 o0 m0 q0:Value} {up0:Int} {v0:Value} (h:W.heap[b]? = some (hob H0 r0 o0 m0 q0 up0 v0)) (H:Hp) (vr vo vm vs:Value) (up:Int) (v:Value):(hoSet W b H vr vo vm vs up v).heap[b]? = some (hob H vr vo vm vs up v):=(cells_setCell (cells_setCell (cells_setCell (cells_setCell (cells_setCell (cells_setCell (cells_setCell (cells_setCell (cells_setCell (cells_setCell (cells_setCell h 0 (.int .i64 H.half)) 1 (.int .i64 H.old)) 2 vr) 3 (.int .i64 H.side)) 4 (.int .i64 H.top)) 5 vo) 6 vm) 7 vs) 8 (.int .i64 H.seed)) 9 (.int .i64 up)) 10 v).trans (by simp)
theorem hob_below {n:Nat} {w X:World} {b:Nat} (hB:Below n w X) (hb:n≤b) (H:Hp) (vr vo vm vs:Value) (up:Int) (v:Value):Below n w (hoSet X b H vr vo vm vs up v):=((((((((((hB.setCell (p:=⟨b,0,none⟩) hb _).setCell (p:=⟨b,1,none⟩) hb _).setCell (p:=⟨b,2,none⟩) hb _).setCell (p:=⟨b,3,none⟩) hb _).setCell (p:=⟨b,4,none⟩) hb _).setCell (p:=⟨b,5,none⟩) hb _).setCell (p:=⟨b,6,none⟩) hb _).setCell (p:=⟨b,7,none⟩) hb _).setCell (p:=⟨b,8,none⟩) hb _).setCell (p:=⟨b,9,none⟩) hb _).setCell (p:=⟨b,10,none⟩) hb _
theorem hob_ch (X:World) (b:Nat) (H:Hp) (vr vo vm vs:Value) (up:Int) (v:Value):Ch [b] X (hoSet X b H vr vo vm vs up v):=(Ch.trans (Ch.trans (Ch.trans (Ch.trans (Ch.trans (Ch.trans (Ch.trans (Ch.trans (Ch.trans (Ch.trans (one_ch _ _ _ _) (one_ch _ _ _ _)) (one_ch _ _ _ _)) (one_ch _ _ _ _)) (one_ch _ _ _ _)) (one_ch _ _ _ _)) (one_ch _ _ _ _)) (one_ch _ _ _ _)) (one_ch _ _ _ _)) (one_ch _ _ _ _)) (one_ch _ _ _ _))
theorem res_ho {fn:Func} {tmps:Array Value} {X:World} {j i b:Nat} {H:Hp} {a1 a2 a3 a4 a5:Option Addr} {n1 c1 n2 c2 n3 c3 n4 c4 n5 c5:Nat} {up:Int} {bb:Bool} (hf:fn.results=#[.cell j 57,.tmp i]) (h2:tmps[j]? = some (.pointer (some ⟨b,0,none⟩))) (hi:tmps[i]? = some (.bool bb)) (hX:X.heap[b]? = some (hob H (.slice a1 n1 c1) (.slice a2 n2 c2) (.slice a3 n3 c3) (.slice a4 n4 c4) up (.slice a5 n5 c5))) :
    (results fn tmps).run Tryz.prog X = .ok (.tuple #[hov H (.slice a1 n1 c1) (.slice a2 n2 c2) (.slice a3 n3 c3) (.slice a4 n4 c4) up (.slice a5 n5 c5),.bool bb]) X:=by
 obtain⟨⟨k0,k1,k2,k3,k4,k5,k6,k7,k8,k9,k10⟩,_⟩:=hob_cells hX
 clear hX
 simp[results,hf,h2,hi,go_sem,k0,k1,k2,k3,k4,k5,k6,k7,k8,k9,k10]
set_option maxHeartbeats 8000000 in
theorem listsOk_any {w:World} {a1 a2 a3 a4 a5:Option Addr} {c1 c2 c3 c4 c5:Nat} {H:Hp} {up:Int} {ds:List Pd} {sl:Pd→List Int} (h:HpAt w (.slice a1 H.row.length c1) (.slice a2 H.roots.length c2) (.slice a3 H.mourned.length c3) (.slice a4 H.seen.length c4) H) (hs:hpSize H≤1048576) (ho:AllI H.roots) (hm:AllI H.mourned) (hv:RoomsAt w (.slice a5 ds.length c5) ds sl) :
    Calls Tryz.prog 96 #[hov H (.slice a1 H.row.length c1) (.slice a2 H.roots.length c2) (.slice a3 H.mourned.length c3) (.slice a4 H.seen.length c4) up (.slice a5 ds.length c5)] w fun e w'=>e = .returned (.bool (lstB H ds))∧Below w.heap.size w w':=by
 have lr:H.roots.length≤1048576:=by unfold hpSize at hs;omega
 have lm:H.mourned.length≤1048576:=by unfold hpSize at hs;omega
 have B0:Below w.heap.size w (w.alloc (hob H (.slice a1 H.row.length c1) (.slice a2 H.roots.length c2) (.slice a3 H.mourned.length c3) (.slice a4 H.seen.length c4) up (.slice a5 ds.length c5))):=(Below.refl _ _).alloc (Nat.le_refl _) _
 have Q0:=heap_alloc_new w (hob H (.slice a1 H.row.length c1) (.slice a2 H.roots.length c2) (.slice a3 H.mourned.length c3) (.slice a4 H.seen.length c4) up (.slice a5 ds.length c5))
 have HALL:Hid (∀V,Below (w.alloc (hob H (.slice a1 H.row.length c1) (.slice a2 H.roots.length c2) (.slice a3 H.mourned.length c3) (.slice a4 H.seen.length c4) up (.slice a5 ds.length c5))).heap.size (w.alloc (hob H (.slice a1 H.row.length c1) (.slice a2 H.roots.length c2) (.slice a3 H.mourned.length c3) (.slice a4 H.seen.length c4) up (.slice a5 ds.length c5))) V→V.heap[w.heap.size]? = some (hob H (.slice a1 H.row.length c1) (.slice a2 H.roots.length c2) (.slice a3 H.mourned.length c3) (.slice a4 H.seen.length c4) up (.slice a5 ds.length c5))∧Below w.heap.size w V∧(∀xs u,xs.length≤1048576→AllI xs→IntsAt w u xs→Calls Tryz.prog 118 #[rmv up (.slice a5 ds.length c5),u] V fun e w'=>e = .returned (.bool (holdL ds xs))∧Below V.heap.size V w')):=by
  intro V hV
  have B:=B0.trans (hV.mono B0.size)
  exact⟨(hV.block _ (by simp)).trans Q0,B,fun xs u h1 h2 h3=>holdsAll_any (pdsAt_below hv.pds B) hv.slices hv.rise (Nat.le_trans hv.len (by decide)) (intsAt_below h3 B) h1 h2⟩
 have AL:=allLead_any (intsAt_below h.2.2.1 B0) lm hm
 have HRT:Hid (∀V,Below (w.alloc (hob H (.slice a1 H.row.length c1) (.slice a2 H.roots.length c2) (.slice a3 H.mourned.length c3) (.slice a4 H.seen.length c4) up (.slice a5 ds.length c5))).heap.size (w.alloc (hob H (.slice a1 H.row.length c1) (.slice a2 H.roots.length c2) (.slice a3 H.mourned.length c3) (.slice a4 H.seen.length c4) up (.slice a5 ds.length c5))) V→Calls Tryz.prog 118 #[rmv up (.slice a5 ds.length c5),.slice a2 H.roots.length c2] V fun e w'=>e = .returned (.bool (holdL ds H.roots))∧Below V.heap.size V w'):=fun V hV=>(HALL.out V hV).2.2 _ _ lr ho h.2.1
 have HMT:Hid (∀V,Below (w.alloc (hob H (.slice a1 H.row.length c1) (.slice a2 H.roots.length c2) (.slice a3 H.mourned.length c3) (.slice a4 H.seen.length c4) up (.slice a5 ds.length c5))).heap.size (w.alloc (hob H (.slice a1 H.row.length c1) (.slice a2 H.roots.length c2) (.slice a3 H.mourned.length c3) (.slice a4 H.seen.length c4) up (.slice a5 ds.length c5))) V→Calls Tryz.prog 118 #[rmv up (.slice a5 ds.length c5),.slice a3 H.mourned.length c3] V fun e w'=>e = .returned (.bool (holdL ds H.mourned))∧Below V.heap.size V w'):=fun V hV=>(HALL.out V hV).2.2 _ _ lm hm h.2.2.1
 have HB0:Hid _:=B0
 have HG:Hid (∀V,Below (w.alloc (hob H (.slice a1 H.row.length c1) (.slice a2 H.roots.length c2) (.slice a3 H.mourned.length c3) (.slice a4 H.seen.length c4) up (.slice a5 ds.length c5))).heap.size (w.alloc (hob H (.slice a1 H.row.length c1) (.slice a2 H.roots.length c2) (.slice a3 H.mourned.length c3) (.slice a4 H.seen.length c4) up (.slice a5 ds.length c5))) V→V.heap[w.heap.size]? = some (hob H (.slice a1 H.row.length c1) (.slice a2 H.roots.length c2) (.slice a3 H.mourned.length c3) (.slice a4 H.seen.length c4) up (.slice a5 ds.length c5))∧Below w.heap.size w V):=fun V hV=>⟨(HALL.out V hV).1,(HALL.out V hV).2.1⟩
 unfold lstB
 obtain⟨⟨z0,z1,z2,z3,z4,z5,z6,z7,z8,z9,z10⟩,_⟩:=hob_cells Q0
 clear h hs ho hm hv B0 Q0 HALL
 by_cases h6:H.roots.length=6
 case neg=>
  rw[decide_eq_false h6,Bool.false_and,Bool.false_and]
  have n6:((H.roots.length:Int) != 6)=true:=by simp;omega
  clear AL HRT HMT
  go_enter Tryz.func96,Tryz.ntmps96
  go_wp2
  go_ret
  exact⟨rfl,HB0.out⟩
 have n6:((H.roots.length:Int) != 6)=false:=by simp;omega
 by_cases h40:H.mourned.length≤40
 case neg=>
  rw[decide_eq_false h40,Bool.and_false,Bool.false_and]
  have n40:(H.mourned.length:Int) > 40:=by omega
  clear AL HRT HMT h6
  go_enter Tryz.func96,Tryz.ntmps96
  go_wp2
  go_ret
  exact⟨rfl,HB0.out⟩
 have n40:¬(H.mourned.length:Int) > 40:=by omega
 rw[decide_eq_true h6,decide_eq_true h40,Bool.true_and,Bool.true_and]
 obtain⟨P1,hP1⟩:∃P,H.mourned.all isA=P:=⟨_,rfl⟩
 obtain⟨P2,hP2⟩:∃P,holdL ds H.roots=P:=⟨_,rfl⟩
 obtain⟨P3,hP3⟩:∃P,holdL ds H.mourned=P:=⟨_,rfl⟩
 rw[hP1]at AL
 simp only[hP2]at HRT
 simp only[hP3]at HMT
 rw[hP1,hP2,hP3]
 clear hP1 hP2 hP3 h6 h40
 go_enter Tryz.func96,Tryz.ntmps96
 go_upto_region 1 with fail
 generalize w.alloc (hob H (.slice a1 H.row.length c1) (.slice a2 H.roots.length c2) (.slice a3 H.mourned.length c3) (.slice a4 H.seen.length c4) up (.slice a5 ds.length c5))=X at *
 cases P1
 ·clear HRT HMT
  go_wp2_with (go_at_call 120;refine AL.mono ?_;clear AL;rintro e w3 ⟨rfl,hw3⟩;rw[hw3];clear hw3 w3)
  go_ret
  exact⟨rfl,HB0.out⟩
 have RX:=HRT.out X (Below.refl _ _)
 cases P2
 ·clear HRT HMT
  go_wp2_with (first|(go_at_call 120;refine AL.mono ?_;clear AL;rintro e w3 ⟨rfl,hw3⟩;rw[hw3];clear hw3 w3)|(go_at_call 118;refine RX.mono ?_;clear RX;rintro e w4 ⟨rfl,b4⟩;have HB4:Hid _:=(HG.out w4 b4).2;clear b4))
  go_ret
  exact⟨rfl,HB4.out⟩
 clear HRT
 go_wp2_with (first
  |(go_at_call 120;refine AL.mono ?_;clear AL;rintro e w3 ⟨rfl,hw3⟩;rw[hw3];clear hw3 w3)
  |(have hh:=RX;clear hh;go_at_call 118;refine RX.mono ?_;clear RX z0 z1 z2 z3 z4 z5 z6 z7 z8 z9 z10;rintro e w4 ⟨rfl,b4⟩;obtain⟨q4,_⟩:=HG.out w4 b4;obtain⟨⟨z0,z1,z2,z3,z4,z5,z6,z7,z8,z9,z10⟩,_⟩:=hob_cells q4;have MX:=HMT.out w4 b4;have HB4:Hid _:=b4;clear b4 q4 HMT)
  |(have hh:=MX;clear hh;go_at_call 118;refine MX.mono ?_;clear MX;rintro e w5 ⟨rfl,b5⟩;have HB5:Hid _:=(HG.out w5 (HB4.out.trans (b5.mono HB4.out.size))).2;clear b5))
 go_ret
 exact⟨rfl,HB5.out⟩
end Go.Proofs.YtemlagfaaibenaaGreat.hp
