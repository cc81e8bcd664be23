/-
  Chapter 10 as the specification has it: Straightened. Chapter 15 as the specification has it: is all straight? Chapter 15 as the specification has it: what is not marked is swept away. Chapter 15 as the specification has it: the memory while those upstairs are pushed together. Chapter 9 as the progr
-/
import Derived.Test.YtemlagfaaibenaaGreatStrS
import Derived.Test.YtemlagfaaibenaaGreatM13
import Derived.Test.YtemlagfaaibenaaGreatM12
import Derived.Test.YtemlagfaaibenaaGreatHeapS7
import Derived.Test.YtemlagfaaibenaaGreatM7
import Derived.Test.YtemlagfaaibenaaGreatM5
import Derived.Test.YtemlagfaaibenaaGreatM2
import Derived.Test.YtemlagfaaibenaaGreatM1
import Derived.BigQuiet
import Derived.Test.YtemlagfaaibenaaGreatHeapI20
import Derived.WalkMore
import Derived.Test.YtemlagfaaibenaaGreatM14
import Derived.Deep.RegionLaw
namespace Go.Proofs.YtemlagfaaibenaaGreat.hp
open Go.RowKit rows heads words walks
set_option maxRecDepth 100000
set_option linter.unusedVariables false
set_option linter.unusedSimpArgs false
theorem own0 (w:World) (b:Nat):OwnH w b (.slice none 0 0) (.slice none 0 0) (.slice none 0 0) (.slice none 0 0) hp0:=
 ⟨⟨World.ownsRow_nil _ _ _ _,World.ownsRow_nil _ _ _ _,World.ownsRow_nil _ _ _ _,World.ownsRow_nil _ _ _ _⟩,by simp[hblk,blk,Value.ownBlock]⟩
theorem ss_new {V0:World} {b g1 g2 g3 k1 k2 k3:Nat} {s:Value} {H:Hp} (h:OwnH V0 b (.slice (some ⟨g1,0,none⟩) H.row.length k1) (.slice (some ⟨g2,0,none⟩) H.roots.length k2) (.slice (some ⟨g3,0,none⟩) H.mourned.length k3) s H) :
    Dst (V0.alloc (hpb H (.slice (some ⟨g1,0,none⟩) H.row.length k1) (.slice (some ⟨g2,0,none⟩) H.roots.length k2) (.slice (some ⟨g3,0,none⟩) H.mourned.length k3) s)) V0.heap.size b g1 g2 g3 s ∧
    SS (V0.alloc (hpb H (.slice (some ⟨g1,0,none⟩) H.row.length k1) (.slice (some ⟨g2,0,none⟩) H.roots.length k2) (.slice (some ⟨g3,0,none⟩) H.mourned.length k3) s)) (V0.alloc (hpb H (.slice (some ⟨g1,0,none⟩) H.row.length k1) (.slice (some ⟨g2,0,none⟩) H.roots.length k2) (.slice (some ⟨g3,0,none⟩) H.mourned.length k3) s)) V0.heap.size b g1 g2 g3 k1 k2 k3 H.row.length H.roots.length H.mourned.length s (.slice none 0 0) H [] H.row H.roots H.mourned:=by
 have hB:Below V0.heap.size V0 (V0.alloc (hpb H (.slice (some ⟨g1,0,none⟩) H.row.length k1) (.slice (some ⟨g2,0,none⟩) H.roots.length k2) (.slice (some ⟨g3,0,none⟩) H.mourned.length k3) s)):=(Below.refl _ _).alloc (Nat.le_refl _) _
 have h':=ownH_below h hB
 have hn:=h.2
 unfold hblk at hn
 rw[blk_of,blk_of,blk_of]at hn
 have l1:=(blk_lt h.1.1 g1 (by rw[blk_of];simp)).2
 have l2:=(blk_lt h.1.2.1 g2 (by rw[blk_of];simp)).2
 have l3:=(blk_lt h.1.2.2.1 g3 (by rw[blk_of];simp)).2
 have l4:=blk_lt h.1.2.2.2
 simp at hn
 obtain⟨⟨n1,n2,n3⟩,⟨n4,n5⟩,n6,n7⟩:=hn
 refine⟨⟨n1,n2,n4,by omega,by omega,by omega,fun k hk=>⟨fun e=>n3 (e▸hk),fun e=>n5 (e▸hk),fun e=>n6 (e▸hk),fun e=>by have:=(l4 k hk).2;omega⟩,by simp;omega⟩,⟨nine_new _ _ _ _ _ _,h'.1.1,h'.1.2.1,h'.1.2.2.1,h'.1.2.2.2,World.ownsRow_nil _ _ _ _,Ch.refl _ _,rfl,rfl,rfl⟩⟩
set_option maxHeartbeats 16000000 in
theorem l15Straight_any {w:World} {vr vo vm vs:Value} {H:Hp} (h:HpAt w vr vo vm vs H) {ps:List Int} (RR:Rt H ps) (hs:hpSize H≤1048576) :
    Calls Tryz.prog 51 #[hpv H vr vo vm vs] w fun e w'=>e = .returned (.bool (isStr H ps))∧Below w.heap.size w w':=by
 obtain⟨a1,c1,a2,c2,a3,c3,a4,c4,e1,e2,e3,e4⟩:=hpAt_slices h
 subst e1 e2 e3 e4
 have hrl:=RR.len
 have N:=(places_facts RR.some').1
 have hr6:=N.roots
 have hm40:=N.mourned
 have hsl:(strRow H (objL H ps)).length=H.row.length:=by
  have:=dif_row (apart_of RR.some') (fun p hp=>hp) (objL H ps).length (Nat.le_refl _)
  rw[List.take_length]at this
  exact this.len
 have HSR:Hid _:=hsl
 have HALL:Hid (∃X,X=w.alloc (hpb H (.slice a1 H.row.length c1) (.slice a2 H.roots.length c2) (.slice a3 H.mourned.length c3) (.slice a4 H.seen.length c4))∧Nine X w.heap.size 27 (.int .i64 H.half) (.int .i64 H.old) (.slice a1 H.row.length c1) (.int .i64 H.side) (.int .i64 H.top) (.slice a2 H.roots.length c2) (.slice a3 H.mourned.length c3) (.slice a4 H.seen.length c4) (.int .i64 H.seed)∧Below w.heap.size w X):=⟨_,rfl,nine_new w H _ _ _ _,(Below.refl _ _).alloc (Nat.le_refl _) _⟩
 have HH0:Hid _:=h
 have HRR:Hid _:=RR
 have HCP:Hid (∀V,HpAt V (.slice a1 H.row.length c1) (.slice a2 H.roots.length c2) (.slice a3 H.mourned.length c3) (.slice a4 H.seen.length c4) H→_):=fun V hV=>l9Copy_any hV hs
 have HIS:Hid (isStr H ps=(decide (strRow H (objL H ps)=H.row)&&(decide (H.roots.map (fol H)=H.roots)&&decide (H.mourned.map (fol H)=H.mourned)))):=rfl
 obtain⟨b1,b2,b3,b0,E1,E2,E3,E0⟩:∃(b1 b2 b3 b0:Bool),decide (strRow H (objL H ps)=H.row)=b1∧decide (H.roots.map (fol H)=H.roots)=b2∧decide (H.mourned.map (fol H)=H.mourned)=b3∧isStr H ps=b0:=⟨_,_,_,_,rfl,rfl,rfl,rfl⟩
 have HB0:Hid (b0=(b1&&(b2&&b3))):=by
  show _=_
  rw[←E0,HIS.out,E1,E2,E3]
 rw[E0]
 have HE1:Hid _:=E1
 have HE2:Hid _:=E2
 have HE3:Hid _:=E3
 clear E0 E1 E2 E3 HIS
 have hr7:H.roots.length≤6:=by omega
 clear h RR hs N hsl hr6
 go_enter Tryz.func51,Tryz.ntmps51
 go_upto_region 1 with fail
 obtain⟨X,hX,T0,BX⟩:=HALL.out
 rw[←hX]
 clear hX HALL
 have HT0:Hid _:=T0
 have HBX:Hid _:=BX
 have HAX:Hid _:=hpAt_below HH0.out BX
 obtain⟨⟨z0,z1,z2,z3,z4⟩,⟨z5,z6,z7,z8⟩,_⟩:=nine_cells T0
 have CP:=HCP.out X HAX.out
 clear T0 BX HCP HH0
 go_upto_region 2 with (go_at_call 26;refine CP.mono ?_;clear CP z0 z1 z2 z3 z4 z5 z6 z7 z8;rintro e w3 ⟨g1,g2,g3,k1,k2,k3,s',rfl,O3,b3⟩;have HO3:Hid _:=O3;have HB3:Hid _:=b3;obtain⟨sa,sn,sc,rfl⟩:=ints_slice (own_ints O3.1.2.2.2);clear O3 b3)
 have SN:=ss_new HO3.out
 have BV:Below w3.heap.size w3 (w3.alloc (hpb H (.slice (some ⟨g1,0,none⟩) H.row.length k1) (.slice (some ⟨g2,0,none⟩) H.roots.length k2) (.slice (some ⟨g3,0,none⟩) H.mourned.length k3) (.slice sa sn sc))):=(Below.refl _ _).alloc (Nat.le_refl _) _
 have ST:=l10Straighten_any HRR.out SN.1 SN.2 (Nat.le_trans HB3.out.size BV.size)
 have HG:Hid _:=ownH_lt HO3.out
 have HB4:Hid _:=HB3.out.trans (BV.mono HB3.out.size)
 have q1:=(HG.out g1 (in_hblk.1 _ (by rw[blk_of];simp))).1
 have q2:=(HG.out g2 (in_hblk.2.1 _ (by rw[blk_of];simp))).1
 have q3:=(HG.out g3 (in_hblk.2.2.1 _ (by rw[blk_of];simp))).1
 have q4:=HB3.out.size
 clear SN BV HO3 HB3 HG
 generalize w3.alloc (hpb H (.slice (some ⟨g1,0,none⟩) H.row.length k1) (.slice (some ⟨g2,0,none⟩) H.roots.length k2) (.slice (some ⟨g3,0,none⟩) H.mourned.length k3) (.slice sa sn sc))=V at *
 go_upto_region 3 with (go_at_call 90;refine ST.mono ?_;clear ST;rintro e w5 ⟨u,rfl,N5,O5,C5⟩;have HN5:Hid _:=N5;have HO5:Hid _:=O5;have HB5:Hid (Below X.heap.size X w5):=HB4.out.trans (below_ch C5 HB4.out.size (fun k hk=>by have e':k=w3.heap.size∨k=g1∨k=g2∨k=g3:=(by simpa using hk);omega));obtain⟨ua,un,uc,rfl⟩:=ints_slice (own_ints O5.1.2.2.2);clear N5 O5 C5)
 have HBW:Hid _:=HBX.out.trans (HB5.out.mono HBX.out.size)
 obtain⟨⟨z0,z1,z2,z3,z4⟩,⟨z5,z6,z7,z8⟩,_⟩:=nine_cells HN5.out
 obtain⟨⟨y0,y1,y2,y3,y4⟩,⟨y5,y6,y7,y8⟩,_⟩:=nine_cells (nine_below HT0.out HB5.out)
 have A5:=hpAt_below HAX.out HB5.out
 have I1:=own_ints HO5.out.1.1
 have I2:=own_ints HO5.out.1.2.1
 have I3:=own_ints HO5.out.1.2.2.1
 have HL1:Hid (∀W,Below w5.heap.size w5 W→Calls Tryz.prog 49 #[.slice (some ⟨g1,0,none⟩) H.row.length k1,.slice a1 H.row.length c1] W fun e w'=>e = .returned (.bool (decide (strRow H (objL H ps)=H.row)))∧Below W.heap.size W w'):=fun W hW=>(l1Same_any (xs:=strRow H (objL H ps)) (intsAt_below (show IntsAt w5 _ (strRow H (objL H ps)) from I1) hW) (intsAt_below A5.1 hW) (by rw[HSR.out];omega)).mono (fun e w' ⟨he,hw⟩=>⟨he,bel_of_drewN hw⟩)
 have HL2:Hid (∀W,Below w5.heap.size w5 W→Calls Tryz.prog 49 #[.slice (some ⟨g2,0,none⟩) H.roots.length k2,.slice a2 H.roots.length c2] W fun e w'=>e = .returned (.bool (decide (H.roots.map (fol H)=H.roots)))∧Below W.heap.size W w'):=fun W hW=>(l1Same_any (xs:=H.roots.map (fol H)) (intsAt_below (show IntsAt w5 _ (H.roots.map (fol H)) from I2) hW) (intsAt_below A5.2.1 hW) (by rw[List.length_map];omega)).mono (fun e w' ⟨he,hw⟩=>⟨he,bel_of_drewN hw⟩)
 have HL3:Hid (∀W,Below w5.heap.size w5 W→Calls Tryz.prog 49 #[.slice (some ⟨g3,0,none⟩) H.mourned.length k3,.slice a3 H.mourned.length c3] W fun e w'=>e = .returned (.bool (decide (H.mourned.map (fol H)=H.mourned)))∧Below W.heap.size W w'):=fun W hW=>(l1Same_any (xs:=H.mourned.map (fol H)) (intsAt_below (show IntsAt w5 _ (H.mourned.map (fol H)) from I3) hW) (intsAt_below A5.2.2.1 hW) (by rw[List.length_map];omega)).mono (fun e w' ⟨he,hw⟩=>⟨he,bel_of_drewN hw⟩)
 have L1:=HL1.out w5 (Below.refl _ _)
 rw[HE1.out]at L1
 clear A5 I1 I2 I3 HAX
 cases b1
 ·have e0:b0=false:=HB0.out
  subst e0
  go_wp2_with (first|(go_at_call 49;refine (L1.mono ?_);clear L1;rintro e w6 ⟨rfl,b1⟩;have HB1':Hid _:=b1;clear b1 z0 z1 z2 z3 z4 z5 z6 z7 z8 y0 y1 y2 y3 y4 y5 y6 y7 y8;obtain⟨⟨z0,z1,z2,z3,z4⟩,⟨z5,z6,z7,z8⟩,_⟩:=nine_cells (nine_below HN5.out HB1'.out);obtain⟨⟨y0,y1,y2,y3,y4⟩,⟨y5,y6,y7,y8⟩,_⟩:=nine_cells (nine_below HT0.out (HB5.out.trans (HB1'.out.mono HB5.out.size)));have L2:=HL2.out w6 HB1'.out;rw[HE2.out]at L2))
  exact bodyPost_ret (v:=.bool false) (by simp[results,go_sem]) rfl ⟨rfl,HBW.out.trans (HB1'.out.mono HBW.out.size)⟩
 ·cases b2
  ·have e0:b0=false:=HB0.out
   subst e0
   go_wp2_with (first|(go_at_call 49;refine (L1.mono ?_);clear L1;rintro e w6 ⟨rfl,b1⟩;have HB1':Hid _:=b1;clear b1 z0 z1 z2 z3 z4 z5 z6 z7 z8 y0 y1 y2 y3 y4 y5 y6 y7 y8;obtain⟨⟨z0,z1,z2,z3,z4⟩,⟨z5,z6,z7,z8⟩,_⟩:=nine_cells (nine_below HN5.out HB1'.out);obtain⟨⟨y0,y1,y2,y3,y4⟩,⟨y5,y6,y7,y8⟩,_⟩:=nine_cells (nine_below HT0.out (HB5.out.trans (HB1'.out.mono HB5.out.size)));have L2:=HL2.out w6 HB1'.out;rw[HE2.out]at L2)|(go_at_call 49;refine (L2.mono ?_);clear L2;rintro e w7 ⟨rfl,b2⟩;have HB2':Hid _:=HB1'.out.trans (b2.mono HB1'.out.size);clear b2 z0 z1 z2 z3 z4 z5 z6 z7 z8 y0 y1 y2 y3 y4 y5 y6 y7 y8;obtain⟨⟨z0,z1,z2,z3,z4⟩,⟨z5,z6,z7,z8⟩,_⟩:=nine_cells (nine_below HN5.out HB2'.out);obtain⟨⟨y0,y1,y2,y3,y4⟩,⟨y5,y6,y7,y8⟩,_⟩:=nine_cells (nine_below HT0.out (HB5.out.trans (HB2'.out.mono HB5.out.size)));have L3:=HL3.out w7 HB2'.out;rw[HE3.out]at L3))
   exact bodyPost_ret (v:=.bool false) (by simp[results,go_sem]) rfl ⟨rfl,HBW.out.trans (HB2'.out.mono HBW.out.size)⟩
  ·have e0:b0=b3:=HB0.out
   subst e0
   go_wp2_with (first|(go_at_call 49;refine (L1.mono ?_);clear L1;rintro e w6 ⟨rfl,b1⟩;have HB1':Hid _:=b1;clear b1 z0 z1 z2 z3 z4 z5 z6 z7 z8 y0 y1 y2 y3 y4 y5 y6 y7 y8;obtain⟨⟨z0,z1,z2,z3,z4⟩,⟨z5,z6,z7,z8⟩,_⟩:=nine_cells (nine_below HN5.out HB1'.out);obtain⟨⟨y0,y1,y2,y3,y4⟩,⟨y5,y6,y7,y8⟩,_⟩:=nine_cells (nine_below HT0.out (HB5.out.trans (HB1'.out.mono HB5.out.size)));have L2:=HL2.out w6 HB1'.out;rw[HE2.out]at L2)|(go_at_call 49;refine (L2.mono ?_);clear L2;rintro e w7 ⟨rfl,b2⟩;have HB2':Hid _:=HB1'.out.trans (b2.mono HB1'.out.size);clear b2 z0 z1 z2 z3 z4 z5 z6 z7 z8 y0 y1 y2 y3 y4 y5 y6 y7 y8;obtain⟨⟨z0,z1,z2,z3,z4⟩,⟨z5,z6,z7,z8⟩,_⟩:=nine_cells (nine_below HN5.out HB2'.out);obtain⟨⟨y0,y1,y2,y3,y4⟩,⟨y5,y6,y7,y8⟩,_⟩:=nine_cells (nine_below HT0.out (HB5.out.trans (HB2'.out.mono HB5.out.size)));have L3:=HL3.out w7 HB2'.out;rw[HE3.out]at L3)|(go_at_call 49;refine (L3.mono ?_);clear L3;rintro e w8 ⟨rfl,b3⟩;have HB3':Hid _:=HB2'.out.trans (b3.mono HB2'.out.size);clear b3 z0 z1 z2 z3 z4 z5 z6 z7 z8 y0 y1 y2 y3 y4 y5 y6 y7 y8;obtain⟨⟨z0,z1,z2,z3,z4⟩,⟨z5,z6,z7,z8⟩,_⟩:=nine_cells (nine_below HN5.out HB3'.out);obtain⟨⟨y0,y1,y2,y3,y4⟩,⟨y5,y6,y7,y8⟩,_⟩:=nine_cells (nine_below HT0.out (HB5.out.trans (HB3'.out.mono HB5.out.size)))))
   exact bodyPost_ret (v:=.bool b0) (by simp[results,go_sem]) rfl ⟨rfl,HBW.out.trans (HB3'.out.mono HBW.out.size)⟩
end Go.Proofs.YtemlagfaaibenaaGreat.hp
namespace Go.Proofs.YtemlagfaaibenaaGreat.hp
open Go.RowKit rows heads words walks region
set_option maxRecDepth 100000
set_option linter.unusedVariables false
set_option linter.unusedSimpArgs false
theorem lastC {P:Program} {o:Oper} {D:Nat→Bool} {a0:Act} {u:Nat→Value} {W:World} {Q:Exit→Act→World→Prop} {dk:Nat} {f:FuncId} {args:Array Value} (hd:o.dst=some dk) (hD:D dk=true) (hrun:(execOp (ovr D a0 u).eval o).run P W = .ok (.enter f args) W) (hc:Calls P f args W fun e w'=>∃v,e = .returned v∧Q .normal (ovr D a0 (upd u dk v)) w') :
    o.wp P (ovr D a0 u) W (fun a' W'=>∃u',a'=ovr D a0 u'∧Q .normal (ovr D a0 u') W') Q:=wp_call hrun (hc.mono fun _ _ ⟨v,he,h⟩=>⟨v,he,upd u dk v,put_in hd hD u v,h⟩)
theorem chR {w w':World} {g:Nat} (h:w.grownBy w' (some g)):Ch [g] w w':=⟨h.os,h.tape,h.output,h.size,fun k hk hn=>h.block k hk (fun e=>hn (by injection e with e;simp[e]))⟩
theorem SS.rowCh {W W':World} {w:World} {P base gr go gm cr co cm nr no nm:Nat} {vs vl:Value} {H:Hp} {os xs ys rs ms:List Int} (h:SS w W P base gr go gm cr co cm nr no nm vs vl H os xs rs ms) (d:Dst w P base gr go gm vs) (hrow:W'.ownsRow base 2 1 (.slice (some ⟨gr,0,none⟩) nr cr) nr (cellsOf ys)) (hy:ys.length=nr) (hc:Ch [gr] W W'):SS w W' P base gr go gm cr co cm nr no nm vs vl H os ys rs ms:=
 ⟨nine_ch h.nine hc (by simp;exact d.pr),hrow,row_ch h.roots hc (fun k hk=>by rw[blk_of]at hk;simp at hk ⊢; have:=d.ro;omega),row_ch h.mour hc (fun k hk=>by rw[blk_of]at hk;simp at hk ⊢; have:=d.rm;omega),row_ch h.seen hc (fun k hk=>by simp;exact (d.sr k hk).1),row_ch h.list hc (fun k hk=>by have:=(blk_lt h.list k hk).1;have:=d.lt.1;simp;omega),h.ch.trans (hc.mono (by simp)),hy,h.lo,h.lm⟩
def SwA (w:World) (P base:Nat) (S:List Nat) (vr vo vm:Value) (H:Hp) (e:Ending) (w':World):Prop:=∃u,e = .returned (.tuple #[])∧Nine w' P 27 (.int .i64 H.half) (.int .i64 H.old) vr (.int .i64 H.side) (.int .i64 H.top) vo vm u (.int .i64 H.seed)∧OwnH w' base vr vo vm u H∧Ch S w w'
theorem ss_own {w W:World} {P base gr go gm cr co cm nr no nm:Nat} {vs vl:Value} {H:Hp} {os xs rs ms:List Int} (h:SS w W P base gr go gm cr co cm nr no nm vs vl H os xs rs ms) (d:Dst w P base gr go gm vs):OwnH W base (.slice (some ⟨gr,0,none⟩) nr cr) (.slice (some ⟨go,0,none⟩) no co) (.slice (some ⟨gm,0,none⟩) nm cm) vs { H with row:=xs,roots:=rs,mourned:=ms }:=by
 have h1:=h.row
 have h2:=h.roots
 have h3:=h.mour
 refine⟨⟨?_,?_,?_,h.seen⟩,?_⟩
 ·show World.ownsRow _ _ _ _ _ _ _
  rw[h.lr];exact h1
 ·show World.ownsRow _ _ _ _ _ _ _
  rw[h.lo];exact h2
 ·show World.ownsRow _ _ _ _ _ _ _
  rw[h.lm];exact h3
 ·unfold hblk
  rw[blk_of,blk_of,blk_of]
  have d1:=d.ro
  have d2:=d.rm
  have d3:=d.om
  have d4:=d.sr
  have nb:(blk vs).Nodup:=by unfold blk;cases vs.ownBlock<;>simp
  refine List.nodup_append.2 ⟨by simp;omega,nb,fun a ha b hb e => ?_⟩
  have:=d4 b hb
  have ha':a=gr∨a=go∨a=gm:=by simpa using ha
  omega
structure CS (w W:World) (P base g1 g2 g3 cr co cm:Nat) (vs:Value) (H:Hp) (u:List Int) (ul wv:Value) (gt ct:Nat) (xs rs ms tl:List Int):Prop where
 ss:SS w W P base g1 g2 g3 cr co cm H.row.length H.roots.length H.mourned.length vs ul H u xs rs ms
 was:rows.Own W w.heap.size wv H.row
 tow:W.ownsRow w.heap.size 2 1 (.slice (some ⟨gt,0,none⟩) H.row.length ct) H.row.length (cellsOf tl)
 tlen:tl.length=H.row.length
 nu:gt ∉ blk ul
 nw:gt ∉ blk wv
 ge:w.heap.size≤gt
theorem CS.below {w W W':World} {P base g1 g2 g3 cr co cm:Nat} {vs:Value} {H:Hp} {u:List Int} {ul wv:Value} {gt ct:Nat} {xs rs ms tl:List Int} (h:CS w W P base g1 g2 g3 cr co cm vs H u ul wv gt ct xs rs ms tl) (hb:Below W.heap.size W W'):CS w W' P base g1 g2 g3 cr co cm vs H u ul wv gt ct xs rs ms tl:=
 ⟨h.ss.below hb,own_below h.was hb,row_ch (S:=[]) h.tow (ch_below hb) (by simp),h.tlen,h.nu,h.nw,h.ge⟩
theorem CS.lists {w W W':World} {P base g1 g2 g3 cr co cm:Nat} {vs:Value} {H:Hp} {u:List Int} {ul wv:Value} {gt ct:Nat} {xs rs ms tl xs' rs' ms':List Int} (h:CS w W P base g1 g2 g3 cr co cm vs H u ul wv gt ct xs rs ms tl) {g:Nat} (hg:g<w.heap.size) (hc:Ch [g] W W') (hs:SS w W' P base g1 g2 g3 cr co cm H.row.length H.roots.length H.mourned.length vs ul H u xs' rs' ms'):CS w W' P base g1 g2 g3 cr co cm vs H u ul wv gt ct xs' rs' ms' tl:=
 ⟨hs,row_ch h.was hc (fun k hk=>by have:=(blk_lt h.was k hk).1;simp;omega),row_ch h.tow hc (fun k hk=>by rw[blk_of]at hk;simp at hk ⊢; have:=h.ge;omega),h.tlen,h.nu,h.nw,h.ge⟩
theorem CS.setRow {w W:World} {P base g1 g2 g3 cr co cm:Nat} {vs:Value} {H:Hp} {u:List Int} {ul wv:Value} {gt ct:Nat} {xs rs ms tl:List Int} (h:CS w W P base g1 g2 g3 cr co cm vs H u ul wv gt ct xs rs ms tl) (d:Dst w P base g1 g2 g3 vs) (i:Nat) (x:Int):CS w (W.setCell ⟨g1,i,none⟩ (.int .i64 x)) P base g1 g2 g3 cr co cm vs H u ul wv gt ct (xs.set i x) rs ms tl:=
 h.lists d.lt.1 (one_ch _ _ _ _) (h.ss.setRow d i x)
theorem CS.setRoot {w W:World} {P base g1 g2 g3 cr co cm:Nat} {vs:Value} {H:Hp} {u:List Int} {ul wv:Value} {gt ct:Nat} {xs rs ms tl:List Int} (h:CS w W P base g1 g2 g3 cr co cm vs H u ul wv gt ct xs rs ms tl) (d:Dst w P base g1 g2 g3 vs) (i:Nat) (x:Int):CS w (W.setCell ⟨g2,i,none⟩ (.int .i64 x)) P base g1 g2 g3 cr co cm vs H u ul wv gt ct xs (rs.set i x) ms tl:=
 h.lists d.lt.2.1 (one_ch _ _ _ _) (h.ss.setRoot d i x)
theorem CS.setMour {w W:World} {P base g1 g2 g3 cr co cm:Nat} {vs:Value} {H:Hp} {u:List Int} {ul wv:Value} {gt ct:Nat} {xs rs ms tl:List Int} (h:CS w W P base g1 g2 g3 cr co cm vs H u ul wv gt ct xs rs ms tl) (d:Dst w P base g1 g2 g3 vs) (i:Nat) (x:Int):CS w (W.setCell ⟨g3,i,none⟩ (.int .i64 x)) P base g1 g2 g3 cr co cm vs H u ul wv gt ct xs rs (ms.set i x) tl:=
 h.lists d.lt.2.2.1 (one_ch _ _ _ _) (h.ss.setMour d i x)
theorem CS.rowCh {w W W':World} {P base g1 g2 g3 cr co cm:Nat} {vs:Value} {H:Hp} {u:List Int} {ul wv:Value} {gt ct:Nat} {xs ys rs ms tl:List Int} (h:CS w W P base g1 g2 g3 cr co cm vs H u ul wv gt ct xs rs ms tl) (d:Dst w P base g1 g2 g3 vs) (hrow:W'.ownsRow base 2 1 (.slice (some ⟨g1,0,none⟩) H.row.length cr) H.row.length (cellsOf ys)) (hy:ys.length=H.row.length) (hc:Ch [g1] W W'):CS w W' P base g1 g2 g3 cr co cm vs H u ul wv gt ct ys rs ms tl:=
 h.lists d.lt.1 hc (h.ss.rowCh d hrow hy hc)
theorem SS.other {W W':World} {w:World} {P base gr go gm cr co cm nr no nm:Nat} {vs vl:Value} {H:Hp} {os xs rs ms:List Int} (h:SS w W P base gr go gm cr co cm nr no nm vs vl H os xs rs ms) (d:Dst w P base gr go gm vs) (hv:∀k ∈ blk vs,k<w.heap.size) {g:Nat} (hg:w.heap.size≤g) (hn:g ∉ blk vl) (hc:Ch [g] W W'):SS w W' P base gr go gm cr co cm nr no nm vs vl H os xs rs ms:=
 ⟨nine_ch h.nine hc (by simp;have:=d.lt.2.2.2;omega),row_ch h.row hc (fun k hk=>by rw[blk_of]at hk;simp at hk ⊢; have:=d.lt.1;omega),row_ch h.roots hc (fun k hk=>by rw[blk_of]at hk;simp at hk ⊢; have:=d.lt.2.1;omega),row_ch h.mour hc (fun k hk=>by rw[blk_of]at hk;simp at hk ⊢; have:=d.lt.2.2.1;omega),row_ch h.seen hc (fun k hk=>by have:=hv k hk;simp;omega),row_ch h.list hc (fun k hk=>by simp;intro e;subst e;exact hn hk),
  ⟨hc.os.trans h.ch.os,hc.tape.trans h.ch.tape,hc.output.trans h.ch.output,Nat.le_trans h.ch.size hc.size,fun k hk hnk=>(hc.block k (Nat.lt_of_lt_of_le hk h.ch.size) (by simp;omega)).trans (h.ch.block k hk hnk)⟩,h.lr,h.lo,h.lm⟩
theorem CS.setTo {w W:World} {P base g1 g2 g3 cr co cm:Nat} {vs:Value} {H:Hp} {u:List Int} {ul wv:Value} {gt ct:Nat} {xs rs ms tl:List Int} (h:CS w W P base g1 g2 g3 cr co cm vs H u ul wv gt ct xs rs ms tl) (d:Dst w P base g1 g2 g3 vs) (hv:∀k ∈ blk vs,k<w.heap.size) (i:Nat) (x:Int):CS w (W.setCell ⟨gt,i,none⟩ (.int .i64 x)) P base g1 g2 g3 cr co cm vs H u ul wv gt ct xs rs ms (tl.set i x):=
 ⟨h.ss.other d hv h.ge h.nu (one_ch _ _ _ _),row_ch (S:=[gt]) h.was (one_ch _ _ _ _) (fun k hk=>by simp;intro e;subst e;exact h.nw hk),by have:=(World.ownsRow.stored h.tow i (.int .i64 x)).1;rw[cells_set]at this;exact this,by rw[List.length_set];exact h.tlen,h.nu,h.nw,h.ge⟩
theorem CS.toCell {w W:World} {P base g1 g2 g3 cr co cm:Nat} {vs:Value} {H:Hp} {u:List Int} {ul wv:Value} {gt ct:Nat} {xs rs ms tl:List Int} (h:CS w W P base g1 g2 g3 cr co cm vs H u ul wv gt ct xs rs ms tl) {q:Nat} (hq:q<H.row.length):W.cell? ⟨gt,q,none⟩=some (.int .i64 (tl.getD q 0))∧W.frozen? ⟨gt,q,none⟩=false:=by
 refine⟨?_,World.ownsRow.frozenAt h.tow q⟩
 rw[World.ownsRow.cellAt h.tow q (by omega)]
 have:=h.tlen
 simp[cellsOf,show q<tl.length by omega,List.getD_eq_getElem?_getD]
theorem CS.toInts {w W:World} {P base g1 g2 g3 cr co cm:Nat} {vs:Value} {H:Hp} {u:List Int} {ul wv:Value} {gt ct:Nat} {xs rs ms tl:List Int} (h:CS w W P base g1 g2 g3 cr co cm vs H u ul wv gt ct xs rs ms tl):IntsAt W (.slice (some ⟨gt,0,none⟩) tl.length ct) tl:=by
 have:=h.tow
 rw[←h.tlen]at this
 exact own_ints this
def toA (n:Nat) (ds:List Mv):List Int:=(List.range n).map (fun a=>dstOf ds a)
theorem toA_len (n:Nat) (ds:List Mv):(toA n ds).length=n:=by simp[toA]
theorem toA_get {n:Nat} {ds:List Mv} {a:Nat} (h:a<n):(toA n ds).getD a 0=dstOf ds a:=by
 unfold toA
 rw[List.getD_eq_getElem?_getD,List.getElem?_map,List.getElem?_range h]
 rfl
theorem toA_nil (n:Nat):toA n []=List.replicate n (-1):=by
 refine list_ext (by simp[toA]) (fun i hi => ?_)
 rw[toA_len]at hi
 rw[toA_get hi,List.getD_eq_getElem?_getD,List.getElem?_replicate,if_pos hi]
 rfl
theorem toA_more {n:Nat} {ds:List Mv} {m:Mv} (h:∀x ∈ ds,x.f≠m.f):(toA n ds).set m.f (m.t:Int)=toA n (ds++[m]):=by
 refine list_ext (by simp[toA]) (fun i hi => ?_)
 rw[List.length_set,toA_len]at hi
 rw[toA_get hi,List.getD_eq_getElem?_getD,List.getElem?_set,toA_len]
 unfold dstOf
 rw[List.find?_append]
 by_cases e:m.f=i
 ·rw[if_pos e,if_pos (by omega)]
  have:ds.find? (fun x=>x.f==i)=none:=by
   rw[List.find?_eq_none]
   intro x hx
   have:=h x hx
   simp
   omega
  rw[this]
  simp[e]
 ·rw[if_neg e,←List.getD_eq_getElem?_getD,toA_get hi]
  have:[m].find? (fun x=>x.f==i)=none:=by simp[e]
  rw[this]
  unfold dstOf
  cases ds.find? (fun x=>x.f==i)<;>rfl
theorem nwW_toA {n:Nat} {ms:List Mv} {x:Int} (h:isA x=true→(av x).toNat<n):nwW ms x=if isA x=true∧0≤(toA n ms).getD (av x).toNat 0 then 4*(toA n ms).getD (av x).toNat 0+4 else x:=by
 unfold nwW
 by_cases hx:isA x=true
 ·rw[toA_get (h hx)]
 ·rw[if_neg (fun e=>hx e.1),if_neg (fun e=>hx e.1)]
end Go.Proofs.YtemlagfaaibenaaGreat.hp
namespace Go.Proofs.YtemlagfaaibenaaGreat.hp
open Go.RowKit rows heads words walks
set_option maxRecDepth 100000
set_option linter.unusedVariables false
set_option linter.unusedSimpArgs false
def OpenR (w:World) (a1 a2 a3 a4:Option Addr) (c1 c2 c3 c4:Nat) (H:Hp) (e:Ending) (w':World):Prop:=(heapOk H=false→e = .returned (.tuple #[hov0,.bool false]))∧(heapOk H=true→∃a5 c5,e = .returned (.tuple #[hov H (.slice a1 H.row.length c1) (.slice a2 H.roots.length c2) (.slice a3 H.mourned.length c3) (.slice a4 H.seen.length c4) (2*H.half) (.slice a5 (objsP a1 H).length c5),.bool true])∧OwnP w' w.heap.size (.slice a5 (objsP a1 H).length c5) (objsP a1 H))∧Below w.heap.size w w'
set_option maxHeartbeats 16000000 in
theorem opened_any {w:World} {a1 a2 a3 a4:Option Addr} {c1 c2 c3 c4:Nat} {H:Hp} (h:HpAt w (.slice a1 H.row.length c1) (.slice a2 H.roots.length c2) (.slice a3 H.mourned.length c3) (.slice a4 H.seen.length c4) H) (hs:hpSize H≤1048576) (hI:HpI H) :
    Calls Tryz.prog 28 #[hpv H (.slice a1 H.row.length c1) (.slice a2 H.roots.length c2) (.slice a3 H.mourned.length c3) (.slice a4 H.seen.length c4)] w (OpenR w a1 a2 a3 a4 c1 c2 c3 c4 H):=by
 unfold OpenR
 have HOK:Hid _:=okB_is a1 H
 have HALL:Hid _:=hpX_all h
 have HOB:Hid (∀V,HpAt V (.slice a1 H.row.length c1) (.slice a2 H.roots.length c2) (.slice a3 H.mourned.length c3) (.slice a4 H.seen.length c4) H→Calls Tryz.prog 58 #[hpv H (.slice a1 H.row.length c1) (.slice a2 H.roots.length c2) (.slice a3 H.mourned.length c3) (.slice a4 H.seen.length c4)] V fun e w'=>(openB a1 H=false→e = .returned (.tuple #[hov0,.bool false]))∧(openB a1 H=true→∃a5 c5,e = .returned (.tuple #[hov H (.slice a1 H.row.length c1) (.slice a2 H.roots.length c2) (.slice a3 H.mourned.length c3) (.slice a4 H.seen.length c4) (2*H.half) (.slice a5 (objsP a1 H).length c5),.bool true])∧OwnP w' V.heap.size (.slice a5 (objsP a1 H).length c5) (objsP a1 H))∧Below V.heap.size V w'):=fun V hV=>openedButSeen_any hV hs hI
 have HII:Hid _:=hI
 have HSZ:Hid (H.seen.length≤1048576):=by unfold hpSize at hs;show _≤_;omega
 clear h hs hI
 go_enter Tryz.func28,Tryz.ntmps28
 go_upto_region 1 with fail
 generalize (w.alloc _).alloc _=X at *
 obtain⟨q0,_,hX,_,_⟩:=HALL.out X (Below.refl _ _)
 obtain⟨z0,z1,z2,z3,z4,z5,z6,z7,z8⟩:=hpb_cells q0
 have OX:=HOB.out X hX
 clear q0 hX HOB
 cases ho:openB a1 H
 ·have HO:Hid (heapOk H=false):=by show _=_;rw[←HOK.out];unfold okB;rw[ho];rfl
  have R0:=OX.mono (fun e w' (hh:_∧_∧_)=>(⟨hh.1 ho,hh.2.2⟩:e = .returned (.tuple #[hov0,.bool false])∧Below X.heap.size X w'))
  clear OX ho HOK
  go_upto_region 2 with (go_at_call 58;refine R0.mono ?_;clear R0 z0 z1 z2 z3 z4 z5 z6 z7 z8;rintro e w1 ⟨rfl,b1⟩;have HB1:Hid _:=b1;clear b1)
  have B2:Below w1.heap.size w1 (w1.alloc (hob hz s0 s0 s0 s0 0 s0)):=(Below.refl _ _).alloc (Nat.le_refl _) _
  have HB2:Hid _:=HB1.out.trans (B2.mono HB1.out.size)
  clear B2
  generalize w1.alloc (hob hz s0 s0 s0 s0 0 s0)=Y at *
  go_quiet (fail)
  have HD:Hid (Below Y.heap.size Y (Y.drewN nq)):=bel_of_drewN ⟨_,rfl⟩
  generalize Y.drewN nq=Y1 at *
  obtain⟨_,q1,_,bw,s3⟩:=HALL.out Y1 (HB2.out.trans (HD.out.mono HB2.out.size))
  obtain⟨⟨g0,g1,g2,g3,g4,g5,g6,g7,g8,g9,g10⟩,f0,f1,f2,f3,f4,f5,f6,f7,f8,f9,f10⟩:=hob_cells q1
  have HQ1:Hid _:=q1
  have HBW:Hid _:=bw
  clear q1 bw
  go_wp2_with fail
  exact bodyPost_ret (res_ho rfl rfl rfl (hob_set HQ1.out hz s0 s0 s0 s0 0 s0)) rfl ⟨fun _=>rfl,fun e=>absurd (HO.out.symm.trans e) (by decide),hob_below HBW.out (by omega) hz s0 s0 s0 s0 0 s0⟩
 have R0:=OX.mono (fun e w' (hh:_∧_∧_)=>(⟨hh.2.1 ho,hh.2.2⟩:(∃a5 c5,e = .returned (.tuple #[hov H (.slice a1 H.row.length c1) (.slice a2 H.roots.length c2) (.slice a3 H.mourned.length c3) (.slice a4 H.seen.length c4) (2*H.half) (.slice a5 (objsP a1 H).length c5),.bool true])∧OwnP w' X.heap.size (.slice a5 (objsP a1 H).length c5) (objsP a1 H))∧Below X.heap.size X w'))
 obtain⟨hn,hr,_⟩:=openB_parts ho
 have HO:Hid (heapOk H=decide (H.seen=mustL (2*H.half) (slP H.row) (objsP a1 H))):=by show _=_;rw[←HOK.out];unfold okB;rw[ho];rfl
 have HRA:Hid (∀V v,HpAt V (.slice a1 H.row.length c1) (.slice a2 H.roots.length c2) (.slice a3 H.mourned.length c3) (.slice a4 H.seen.length c4) H→PdsAt V v (objsP a1 H)→RoomsAt V v (objsP a1 H) (slP H.row)):=fun V v h1 h2=>roomsAt_of h1.1 hn hr HII.out.2.1 h2
 clear OX ho HOK hn hr
 go_upto_region 2 with (go_at_call 58;refine R0.mono ?_;clear R0 z0 z1 z2 z3 z4 z5 z6 z7 z8;rintro e w1 ⟨⟨a5,c5,rfl,O1⟩,b1⟩;have HB1:Hid _:=b1;have HO1:Hid _:=O1;clear b1 O1)
 have B2:Below w1.heap.size w1 (w1.alloc (hob H (.slice a1 H.row.length c1) (.slice a2 H.roots.length c2) (.slice a3 H.mourned.length c3) (.slice a4 H.seen.length c4) (2*H.half) (.slice a5 (objsP a1 H).length c5))):=(Below.refl _ _).alloc (Nat.le_refl _) _
 have HB2:Hid _:=HB1.out.trans (B2.mono HB1.out.size)
 have HQ2:Hid _:=heap_alloc_new w1 (hob H (.slice a1 H.row.length c1) (.slice a2 H.roots.length c2) (.slice a3 H.mourned.length c3) (.slice a4 H.seen.length c4) (2*H.half) (.slice a5 (objsP a1 H).length c5))
 have HO2:Hid _:=ownP_below HO1.out B2
 clear B2 HO1
 generalize w1.alloc (hob H (.slice a1 H.row.length c1) (.slice a2 H.roots.length c2) (.slice a3 H.mourned.length c3) (.slice a4 H.seen.length c4) (2*H.half) (.slice a5 (objsP a1 H).length c5))=Y at *
 generalize w1.heap.size=n1 at *
 have HY:Hid (∀V,Below Y.heap.size Y V→V.heap[n1]? = some (hob H (.slice a1 H.row.length c1) (.slice a2 H.roots.length c2) (.slice a3 H.mourned.length c3) (.slice a4 H.seen.length c4) (2*H.half) (.slice a5 (objsP a1 H).length c5))∧V.heap[w.heap.size+1]? = some (hob hz s0 s0 s0 s0 0 s0)∧HpAt V (.slice a1 H.row.length c1) (.slice a2 H.roots.length c2) (.slice a3 H.mourned.length c3) (.slice a4 H.seen.length c4) H∧RoomsAt V (.slice a5 (objsP a1 H).length c5) (objsP a1 H) (slP H.row)∧OwnP V X.heap.size (.slice a5 (objsP a1 H).length c5) (objsP a1 H)∧Below w.heap.size w V∧w.heap.size+2≤V.heap.size):=by
  intro V hV
  obtain⟨_,k1,k2,k3,k4⟩:=HALL.out V (HB2.out.trans (hV.mono HB2.out.size))
  exact⟨(hV.block _ (lt_of_block HQ2.out)).trans HQ2.out,k1,k2,HRA.out V _ k2 (ownP_at (ownP_below HO2.out hV)),ownP_below HO2.out hV,k3,k4⟩
 have HM:Hid (∀V,Below Y.heap.size Y V→Calls Tryz.prog 60 #[rmv (2*H.half) (.slice a5 (objsP a1 H).length c5)] V fun e w'=>∃u,e = .returned u∧rows.Own w' V.heap.size u (mustL (2*H.half) (slP H.row) (objsP a1 H))∧Below V.heap.size V w'):=fun V hV=>by
  obtain⟨_,_,_,r,_⟩:=HY.out V hV
  exact mustSee_any r.pds r.slices (Nat.le_trans r.len (by decide)) r.slots
 have HE:Hid (∀V u,Below Y.heap.size Y V→IntsAt V u (mustL (2*H.half) (slP H.row) (objsP a1 H))→Calls Tryz.prog 59 #[.slice a4 H.seen.length c4,u] V fun e w'=>e = .returned (.bool (heapOk H))∧Below V.heap.size V w'):=fun V u hV hu=>by
  obtain⟨_,_,k2,r,_⟩:=HY.out V hV
  have:=equal_any k2.2.2.2 hu HSZ.out (Nat.le_trans (mustL_len _ _ _) (Nat.le_trans r.len (by decide)))
  rwa [←HO.out]at this
 have sX2:w.heap.size+2≤X.heap.size:=(HALL.out X (Below.refl _ _)).2.2.2.2
 obtain⟨P,hP⟩:∃P,heapOk H=P:=⟨_,rfl⟩
 simp only[hP]at HE
 have HPP:Hid _:=hP
 clear HO HRA HALL HB1 HB2 HQ2 HO2 HII HSZ hP
 obtain⟨qY,_⟩:=HY.out Y (Below.refl _ _)
 obtain⟨⟨m0,m1,m2,m3,m4,m5,m6,m7,m8,m9,m10⟩,_⟩:=hob_cells qY
 clear qY
 go_cut [22] from 11 to 22 (fun v wz=>v = .bool (!P)∧Hid (Below Y.heap.size Y wz))
 case first=>
  have HG:Hid (∀(V w':World),Below V.heap.size V w'→Below Y.heap.size Y V→w'.heap[n1]? = some (hob H (.slice a1 H.row.length c1) (.slice a2 H.roots.length c2) (.slice a3 H.mourned.length c3) (.slice a4 H.seen.length c4) (2*H.half) (.slice a5 (objsP a1 H).length c5))∧Below Y.heap.size Y w'):=by
   intro V w' h1 h2
   have h3:Below Y.heap.size Y w':=h2.trans (h1.mono h2.size)
   exact⟨(HY.out w' h3).1,h3⟩
  go_region_law (first
   |(go_simp;go_at_call 60;refine Calls.mono (HM.out _ ⟨rfl,rfl,rfl,Nat.le_refl _,fun _ _=>rfl⟩) ?_;rintro e w5 ⟨u5,rfl,o5,b5⟩;obtain⟨q5,x5⟩:=HG.out _ _ b5 ⟨rfl,rfl,rfl,Nat.le_refl _,fun _ _=>rfl⟩;obtain⟨⟨p0,p1,p2,p3,p4,p5,p6,p7,p8,p9,p10⟩,_⟩:=hob_cells q5;have HO5:Hid _:=own_ints o5;obtain⟨ua,uc,hu5,_⟩:=own_ints o5;subst hu5;have HX5:Hid _:=x5;clear HM o5 b5 q5 x5)
   |(go_simp;go_at_call 59;refine Calls.mono (HE.out _ _ ⟨HX5.out.os,HX5.out.tape,HX5.out.output,HX5.out.size,HX5.out.block⟩ HO5.out) ?_;rintro e w6 ⟨rfl,b6⟩;have HX6:Hid (Below Y.heap.size Y w6):=(HG.out w5 w6 ⟨b6.os,b6.tape,b6.output,b6.size,b6.block⟩ HX5.out).2;clear HE b6))
  all_goals (go_wp2_with fail)
  all_goals (go_meet;exact⟨rfl,HX6.out⟩)
 obtain⟨rfl,bc⟩:=hcut
 clear m0 m1 m2 m3 m4 m5 m6 m7 m8 m9 m10 HM HE
 obtain⟨qY,q1,_,_,o7,bw,s7⟩:=HY.out wc bc.out
 obtain⟨⟨g0,g1,g2,g3,g4,g5,g6,g7,g8,g9,g10⟩,f0,f1,f2,f3,f4,f5,f6,f7,f8,f9,f10⟩:=hob_cells q1
 have HQ1:Hid _:=q1
 have HBW:Hid _:=bw
 have HO7:Hid _:=o7
 cases P
 ·clear q1 qY bw o7
  go_wp2_with fail
  exact bodyPost_ret (res_ho rfl rfl rfl (hob_set HQ1.out hz s0 s0 s0 s0 0 s0)) rfl ⟨fun _=>rfl,fun e=>absurd (HPP.out.symm.trans e) (by decide),hob_below HBW.out (by omega) hz s0 s0 s0 s0 0 s0⟩
 ·obtain⟨⟨m0,m1,m2,m3,m4,m5,m6,m7,m8,m9,m10⟩,_⟩:=hob_cells qY
  clear q1 qY bw o7
  go_wp2_with fail
  refine bodyPost_ret (res_ho rfl rfl rfl (hob_set HQ1.out H (.slice a1 H.row.length c1) (.slice a2 H.roots.length c2) (.slice a3 H.mourned.length c3) (.slice a4 H.seen.length c4) (2*H.half) (.slice a5 (objsP a1 H).length c5))) rfl ⟨fun e=>absurd (HPP.out.symm.trans e) (by decide),fun _=>⟨a5,c5,rfl,?_⟩,hob_below HBW.out (by omega) H (.slice a1 H.row.length c1) (.slice a2 H.roots.length c2) (.slice a3 H.mourned.length c3) (.slice a4 H.seen.length c4) (2*H.half) (.slice a5 (objsP a1 H).length c5)⟩
  refine ownP_base (row_ch (S:=[w.heap.size+1]) HO7.out (hob_ch _ _ _ _ _ _ _ _ _) (fun k hk => ?_)) (by omega)
  have:=(blk_lt HO7.out k hk).1
  simp
  omega
structure FolP (H:Hp) (ps:List Int) (ds:List Pd) (sl:Pd→List Int):Prop where
 rt:Rt H ps
 note:NoteP ds sl (ntH H) (nxH H)
 word:∀x,holdW ds x=wordIn H ps x
 first:∀i,i<ds.length→(ds.getD i pdD).f=7→(sl (ds.getD i pdD)).getD 0 0=H.row.getD ((ds.getD i pdD).pl.toNat+1) 0
theorem folP_of {a:Option Addr} {H:Hp} (h:heapOk H=true):∃ps,FolP H ps (objsP a H) (slP H.row):=by
 have hr:=(ok_right h).1
 obtain⟨ps,R⟩:=rt_of hr
 rw[←openB_is a H]at hr
 obtain⟨hn,hro,hS,_,_⟩:=openB_parts hr
 have hb:placesB H=some ps:=by
  have:=R.some'
  unfold placesR at this
  split at this
  ·cases this
  ·exact this
 have RM:=rooms_of (a:=a) hn hro hb R.some'
 refine⟨ps,R,noteP_of hn hro hS,RM.word,fun i hi h7 => ?_⟩
 obtain⟨j,e,hc,h6⟩:=objs_in hro _ (mem_getDP hi)
 rw[e]at h7 ⊢
 rw[(slP_note (a:=a) hc h7).2,pdOf_pl,Int.toNat_natCast];rfl
set_option maxHeartbeats 16000000 in
theorem seeAnew_any {w:World} {P:Nat} {a1 a2 a3 a4:Option Addr} {c1 c2 c3 c4:Nat} {H:Hp} (hT:Nine w P 27 (.int .i64 H.half) (.int .i64 H.old) (.slice a1 H.row.length c1) (.int .i64 H.side) (.int .i64 H.top) (.slice a2 H.roots.length c2) (.slice a3 H.mourned.length c3) (.slice a4 H.seen.length c4) (.int .i64 H.seed))
    (h:HpAt w (.slice a1 H.row.length c1) (.slice a2 H.roots.length c2) (.slice a3 H.mourned.length c3) (.slice a4 H.seen.length c4) H) (hn:numB H=true) (hr:roomB a1 H=true) (ha:AllI H.row) :
    Calls Tryz.prog 35 #[.pointer (some ⟨P,0,none⟩)] w fun e w'=>∃u,e = .returned (.tuple #[])∧rows.Own w' w.heap.size u (seenL H)∧Nine w' P 27 (.int .i64 H.half) (.int .i64 H.old) (.slice a1 H.row.length c1) (.int .i64 H.side) (.int .i64 H.top) (.slice a2 H.roots.length c2) (.slice a3 H.mourned.length c3) u (.int .i64 H.seed)∧Ch [P] w w':=by
 have RO:=(roomsOf_any h hn ha).mono (fun e w' (hh:_∧_∧_)=>(⟨hh.2.1 hr,hh.2.2⟩:(∃v',e = .returned (.tuple #[.agg #[.int .i64 (2*H.half),v'],.bool true])∧OwnP w' w.heap.size v' (objsP a1 H))∧Below w.heap.size w w'))
 have HMS:Hid (∀V a5 c5,Below w.heap.size w V→PdsAt V (.slice a5 (objsP a1 H).length c5) (objsP a1 H)→Calls Tryz.prog 60 #[rmv (2*H.half) (.slice a5 (objsP a1 H).length c5)] V fun e w'=>∃u,e = .returned u∧rows.Own w' V.heap.size u (seenL H)∧Below V.heap.size V w'):=fun V a5 c5 hV hp=>by
  have r:=roomsAt_of (intsAt_below h.1 hV) hn hr ha hp
  have:=mustSee_any (up:=2*H.half) r.pds r.slices (Nat.le_trans r.len (by decide)) r.slots
  rwa [seen_same hn hr]at this
 have HT:Hid _:=hT
 have sP:=lt_of_block hT
 obtain⟨⟨z0,z1,z2,z3,z4⟩,⟨z5,z6,z7,z8⟩,_⟩:=nine_cells hT
 clear hT h hn hr ha
 go_enter Tryz.func35,Tryz.ntmps35
 go_upto_region 1 with (go_at_call 74;refine RO.mono ?_;clear RO z0 z1 z2 z3 z4 z5 z6 z7 z8;rintro e w1 ⟨⟨v1,rfl,O1⟩,b1⟩;have HB1:Hid _:=b1;have HO1:Hid _:=ownP_at O1;obtain⟨a5,c5,rfl⟩:=pds_slice (ownP_at O1);clear b1 O1)
 have B2:Below w1.heap.size w1 (w1.alloc (rmb (2*H.half) (.slice a5 (objsP a1 H).length c5))):=(Below.refl _ _).alloc (Nat.le_refl _) _
 have HB2:Hid _:=HB1.out.trans (B2.mono HB1.out.size)
 obtain⟨⟨r0,r1⟩,_⟩:=rmb_cells (heap_alloc_new w1 (rmb (2*H.half) (.slice a5 (objsP a1 H).length c5)))
 have MS:=HMS.out _ a5 c5 HB2.out (pdsAt_below HO1.out B2)
 clear B2 HO1 HMS HB1
 generalize w1.alloc (rmb (2*H.half) (.slice a5 (objsP a1 H).length c5))=Y at *
 go_wp2_with (go_at_call 60;refine MS.mono ?_;clear MS;rintro e w3 ⟨u3,rfl,O3,b3⟩;have B3:=HB2.out.trans (b3.mono HB2.out.size);have T3:=nine_below HT.out B3;obtain⟨⟨z0,z1,z2,z3,z4⟩,⟨z5,z6,z7,z8⟩,zf⟩:=nine_cells T3;have f7:=zf 7;have HO3:Hid _:=own_base O3 HB2.out.size;have HT3:Hid _:=T3;have HB3:Hid _:=B3;obtain⟨ua,un,uc,rfl⟩:=ints_slice (own_ints O3);clear O3 b3 B3 T3 zf)
 refine bodyPost_end (results_none rfl _ _ _) rfl ⟨_,rfl,?_,nine_set7 HT3.out _,(ch_below HB3.out).trans (one_ch _ _ _ _)⟩
 exact row_ch (S:=[P]) HO3.out (one_ch _ _ _ _) (fun j hj=>by have:=(blk_lt HO3.out j hj).1;simp;omega)
def plL (ds:List Pd):List Int:=ds.map (·.pl)
theorem pl_keep (a:Option Addr) (H:Hp):∀u:List Int,(∀p ∈ u,∃j:Nat,p=j)→plL (keepP (pdsOf a H.row u))=u.filter (isO H)
 | [],_=>rfl
 |p :: u,h=>by
  have ih:=pl_keep a H u (fun q hq=>h q (List.mem_cons_of_mem _ hq))
  obtain⟨j,rfl⟩:=h p (List.mem_cons_self ..)
  have e0:pdsOf a H.row ((j:Int) :: u)=pdOf a H.row j :: pdsOf a H.row u:=by unfold pdsOf;simp
  rw[e0]
  unfold keepP plL at ih ⊢
  cases e:isO H (j:Int)
  ·have e1:(!freeP (pdOf a H.row j))=false:=by rw[←e];show _ = !(uF (H.row.getD (j:Int).toNat 0)==6);rw[Int.toNat_natCast];rfl
   rw[List.filter_cons_of_neg (p:=fun d => !freeP d) (by rw[e1];decide),List.filter_cons_of_neg (by rw[e];decide)];exact ih
  ·have e1:(!freeP (pdOf a H.row j))=true:=by rw[←e];show _ = !(uF (H.row.getD (j:Int).toNat 0)==6);rw[Int.toNat_natCast];rfl
   rw[List.filter_cons_of_pos (p:=fun d => !freeP d) e1,List.filter_cons_of_pos e,List.map_cons,ih,pdOf_pl]
theorem pl_all (a:Option Addr) (H:Hp):∀u:List Int,(∀p ∈ u,∃j:Nat,p=j)→plL (pdsOf a H.row u)=u
 | [],_=>rfl
 |p :: u,h=>by
  have ih:=pl_all a H u (fun q hq=>h q (List.mem_cons_of_mem _ hq))
  obtain⟨j,rfl⟩:=h p (List.mem_cons_self ..)
  unfold plL pdsOf at ih ⊢
  rw[List.map_cons,List.map_cons,ih,pdOf_pl,Int.toNat_natCast]
theorem objs_places {a:Option Addr} {H:Hp} (h:heapOk H=true):plL (objsP a H)=objL H ((placesR H).getD []):=by
 have hr:rightB H=true:=by unfold heapOk at h;rw[Bool.and_eq_true]at h;exact h.1
 obtain⟨ps,hps⟩:=right_some hr
 rw[←openB_is a H]at hr
 obtain⟨hn,hro,_⟩:=openB_parts hr
 obtain⟨r,u,e1,e2,e3,e4⟩:=room_some hn hro
 have hb:placesB H=some ps:=by
  have:=hps
  unfold placesR at this
  split at this
  ·cases this
  ·exact this
 rw[e3]at hb
 cases hb
 have hp:=(places_plc hps).1
 have hpn:∀p ∈ r++u,∃j:Nat,p=j:=fun p hp'=>by obtain⟨j,e,_⟩:=hp p hp';exact⟨j,e⟩
 rw[hps,Option.getD_some,e4]
 unfold objL
 rw[List.filter_append]
 have q1:plL (pdsOf a H.row r++keepP (pdsOf a H.row u))=plL (pdsOf a H.row r)++plL (keepP (pdsOf a H.row u)):=by unfold plL;rw[List.map_append]
 rw[q1,pl_all a H r (fun p hp'=>hpn p (List.mem_append.2 (.inl hp'))),pl_keep a H u (fun p hp'=>hpn p (List.mem_append.2 (.inr hp')))]
 congr 1
 symm
 rw[List.filter_eq_self]
 intro p hp'
 obtain⟨_,_,r',u',hr',_,hall,_⟩:=places_facts hps
 rw[e1]at hr'
 cases hr'
 rw[List.all_eq_true]at hall
 have:=hall p hp'
 unfold roomOk at this
 rw[Bool.and_eq_true]at this
 exact this.1
theorem roomB_of {a:Option Addr} {H:Hp} {ps:List Int} (hn:numB H=true) (h:placesR H=some ps):roomB a H=true:=by
 obtain⟨_,hz,r,u,hr,hu,hok,_⟩:=places_facts h
 have hb:=placesB_yes hz hr hu hok
 cases e:roomB a H
 ·rw[room_none hn e]at hb;cases hb
 ·rfl
theorem obj_step {a:Option Addr} {H:Hp} {ps:List Int} (h:heapOk H=true) (R:Rt H ps) (hr:roomB a H=true) {i:Nat} (hi:i<(objsP a H).length) :
    ∃j:Nat,((objsP a H).getD i pdD).pl=(j:Int)∧j+2≤H.row.length∧j+1+(slotsOf H (j:Int)).length≤H.row.length∧(objL H ps).getD i 0=(j:Int)∧(((objsP a H).getD i pdD).f==7)=ntH H (j:Int)∧slP H.row ((objsP a H).getD i pdD)=slotsOf H (j:Int)∧∀x ∈ slotsOf H (j:Int),wordIn H ps x=true:=by
 have hpl:=objs_places (a:=a) h
 rw[R.some',Option.getD_some]at hpl
 obtain⟨j,ed,hc,h6⟩:=objs_in hr _ (mem_getDP hi)
 obtain⟨_,_,c2,c3⟩:=chunk_fits hc h6
 have se:=slots_end hc h6
 have hg:(objL H ps).getD i 0=(j:Int):=by
  rw[←hpl]
  unfold plL
  rw[List.getD_eq_getElem?_getD,List.getElem?_map,List.getElem?_eq_getElem hi]
  have e2:(objsP a H)[i]=pdOf a H.row j:=by
   rw[←ed,List.getD_eq_getElem?_getD,List.getElem?_eq_getElem hi];rfl
  rw[e2];rfl
 have hm:(j:Int) ∈ objL H ps:=by
  rw[←hg]
  have hl:i<(objL H ps).length:=by rw[←hpl];unfold plL;rw[List.length_map];exact hi
  rw[List.getD_eq_getElem?_getD,List.getElem?_eq_getElem hl];exact List.getElem_mem hl
 refine⟨j,by rw[ed];rfl,by omega,by omega,hg,?_,?_,?_⟩
 ·rw[ed];unfold ntH;rw[Int.toNat_natCast];rfl
 ·rw[ed];exact slP_of a H j h6
 ·have hs:=R.slots
  unfold slotsOk at hs
  rw[List.all_eq_true]at hs
  have h1:=hs _ (objL_mem hm).1
  rw[List.all_eq_true]at h1
  exact h1
end Go.Proofs.YtemlagfaaibenaaGreat.hp
