/-
  Chapter 10 as the specification has it: Straightened. Chapter 15 as the specification has it: is all straight? Chapter 15 as the specification has it: does all that is marked lead to what is marked?
-/
import Derived.Test.YtocidankimefpaaGreatDoorStrS
import Derived.Test.YtocidankimefpaaGreatDoorM23
import Derived.Test.YtocidankimefpaaGreatDoorM22
import Derived.Test.YtocidankimefpaaGreatDoorM20
import Derived.Test.YtocidankimefpaaGreatDoorM17
import Derived.Test.YtocidankimefpaaGreatDoorMarkS
import Derived.BigQuiet
namespace Go.Proofs.YtocidankimefpaaGreatDoor.hp
open Go.RowKit rows heads words walks
set_option maxRecDepth 100000
set_option linter.unusedVariables false
set_option linter.unusedSimpArgs false
theorem own0 (w:World) (b:Nat):OwnH w b (.slice none 0 0) (.slice none 0 0) (.slice none 0 0) (.slice none 0 0) hp0:=
 ⟨⟨World.ownsRow_nil _ _ _ _,World.ownsRow_nil _ _ _ _,World.ownsRow_nil _ _ _ _,World.ownsRow_nil _ _ _ _⟩,by simp[hblk,blk,Value.ownBlock]⟩
theorem ss_new {V0:World} {b g1 g2 g3 k1 k2 k3:Nat} {s:Value} {H:Hp} (h:OwnH V0 b (.slice (some ⟨g1,0,none⟩) H.row.length k1) (.slice (some ⟨g2,0,none⟩) H.roots.length k2) (.slice (some ⟨g3,0,none⟩) H.mourned.length k3) s H) :
    Dst (V0.alloc (hpb H (.slice (some ⟨g1,0,none⟩) H.row.length k1) (.slice (some ⟨g2,0,none⟩) H.roots.length k2) (.slice (some ⟨g3,0,none⟩) H.mourned.length k3) s)) V0.heap.size b g1 g2 g3 s ∧
    SS (V0.alloc (hpb H (.slice (some ⟨g1,0,none⟩) H.row.length k1) (.slice (some ⟨g2,0,none⟩) H.roots.length k2) (.slice (some ⟨g3,0,none⟩) H.mourned.length k3) s)) (V0.alloc (hpb H (.slice (some ⟨g1,0,none⟩) H.row.length k1) (.slice (some ⟨g2,0,none⟩) H.roots.length k2) (.slice (some ⟨g3,0,none⟩) H.mourned.length k3) s)) V0.heap.size b g1 g2 g3 k1 k2 k3 H.row.length H.roots.length H.mourned.length s (.slice none 0 0) H [] H.row H.roots H.mourned:=by
 have hB:Below V0.heap.size V0 (V0.alloc (hpb H (.slice (some ⟨g1,0,none⟩) H.row.length k1) (.slice (some ⟨g2,0,none⟩) H.roots.length k2) (.slice (some ⟨g3,0,none⟩) H.mourned.length k3) s)):=(Below.refl _ _).alloc (Nat.le_refl _) _
 have h':=ownH_below h hB
 have hn:=h.2
 unfold hblk at hn
 rw[blk_of,blk_of,blk_of]at hn
 have l1:=(blk_lt h.1.1 g1 (by rw[blk_of];simp)).2
 have l2:=(blk_lt h.1.2.1 g2 (by rw[blk_of];simp)).2
 have l3:=(blk_lt h.1.2.2.1 g3 (by rw[blk_of];simp)).2
 have l4:=blk_lt h.1.2.2.2
 simp at hn
 obtain⟨⟨n1,n2,n3⟩,⟨n4,n5⟩,n6,n7⟩:=hn
 refine⟨⟨n1,n2,n4,by omega,by omega,by omega,fun k hk=>⟨fun e=>n3 (e▸hk),fun e=>n5 (e▸hk),fun e=>n6 (e▸hk),fun e=>by have:=(l4 k hk).2;omega⟩,by simp;omega⟩,⟨nine_new _ _ _ _ _ _,h'.1.1,h'.1.2.1,h'.1.2.2.1,h'.1.2.2.2,World.ownsRow_nil _ _ _ _,Ch.refl _ _,rfl,rfl,rfl⟩⟩
set_option maxHeartbeats 16000000 in
theorem l15Straight_any {w:World} {vr vo vm vs:Value} {H:Hp} (h:HpAt w vr vo vm vs H) {ps:List Int} (RR:Rt H ps) (hs:hpSize H≤1048576) :
    Calls Tryz.prog 58 #[hpv H vr vo vm vs] w fun e w'=>e = .returned (.bool (isStr H ps))∧Below w.heap.size w w':=by
 obtain⟨a1,c1,a2,c2,a3,c3,a4,c4,e1,e2,e3,e4⟩:=hpAt_slices h
 subst e1 e2 e3 e4
 have hrl:=RR.len
 have N:=(places_facts RR.some').1
 have hr6:=N.roots
 have hm40:=N.mourned
 have hsl:(strRow H (objL H ps)).length=H.row.length:=by
  have:=dif_row (apart_of RR.some') (fun p hp=>hp) (objL H ps).length (Nat.le_refl _)
  rw[List.take_length]at this
  exact this.len
 have HSR:Hid _:=hsl
 have HALL:Hid (∃X,X=w.alloc (hpb H (.slice a1 H.row.length c1) (.slice a2 H.roots.length c2) (.slice a3 H.mourned.length c3) (.slice a4 H.seen.length c4))∧Nine X w.heap.size 26 (.int .i64 H.half) (.int .i64 H.old) (.slice a1 H.row.length c1) (.int .i64 H.side) (.int .i64 H.top) (.slice a2 H.roots.length c2) (.slice a3 H.mourned.length c3) (.slice a4 H.seen.length c4) (.int .i64 H.seed)∧Below w.heap.size w X):=⟨_,rfl,nine_new w H _ _ _ _,(Below.refl _ _).alloc (Nat.le_refl _) _⟩
 have HH0:Hid _:=h
 have HRR:Hid _:=RR
 have HCP:Hid (∀V,HpAt V (.slice a1 H.row.length c1) (.slice a2 H.roots.length c2) (.slice a3 H.mourned.length c3) (.slice a4 H.seen.length c4) H→_):=fun V hV=>l9Copy_any hV hs
 have HIS:Hid (isStr H ps=(decide (strRow H (objL H ps)=H.row)&&(decide (H.roots.map (fol H)=H.roots)&&decide (H.mourned.map (fol H)=H.mourned)))):=rfl
 obtain⟨b1,b2,b3,b0,E1,E2,E3,E0⟩:∃(b1 b2 b3 b0:Bool),decide (strRow H (objL H ps)=H.row)=b1∧decide (H.roots.map (fol H)=H.roots)=b2∧decide (H.mourned.map (fol H)=H.mourned)=b3∧isStr H ps=b0:=⟨_,_,_,_,rfl,rfl,rfl,rfl⟩
 have HB0:Hid (b0=(b1&&(b2&&b3))):=by
  show _=_
  rw[←E0,HIS.out,E1,E2,E3]
 rw[E0]
 have HE1:Hid _:=E1
 have HE2:Hid _:=E2
 have HE3:Hid _:=E3
 clear E0 E1 E2 E3 HIS
 have hr7:H.roots.length≤6:=by omega
 clear h RR hs N hsl hr6
 go_enter Tryz.func58,Tryz.ntmps58
 go_upto_region 1 with fail
 obtain⟨X,hX,T0,BX⟩:=HALL.out
 rw[←hX]
 clear hX HALL
 have HT0:Hid _:=T0
 have HBX:Hid _:=BX
 have HAX:Hid _:=hpAt_below HH0.out BX
 obtain⟨⟨z0,z1,z2,z3,z4⟩,⟨z5,z6,z7,z8⟩,_⟩:=nine_cells T0
 have CP:=HCP.out X HAX.out
 clear T0 BX HCP HH0
 go_upto_region 2 with (go_at_call 16;refine CP.mono ?_;clear CP z0 z1 z2 z3 z4 z5 z6 z7 z8;rintro e w3 ⟨g1,g2,g3,k1,k2,k3,s',rfl,O3,b3⟩;have HO3:Hid _:=O3;have HB3:Hid _:=b3;obtain⟨sa,sn,sc,rfl⟩:=ints_slice (own_ints O3.1.2.2.2);clear O3 b3)
 have SN:=ss_new HO3.out
 have BV:Below w3.heap.size w3 (w3.alloc (hpb H (.slice (some ⟨g1,0,none⟩) H.row.length k1) (.slice (some ⟨g2,0,none⟩) H.roots.length k2) (.slice (some ⟨g3,0,none⟩) H.mourned.length k3) (.slice sa sn sc))):=(Below.refl _ _).alloc (Nat.le_refl _) _
 have ST:=l10Straighten_any HRR.out SN.1 SN.2 (Nat.le_trans HB3.out.size BV.size)
 have HG:Hid _:=ownH_lt HO3.out
 have HB4:Hid _:=HB3.out.trans (BV.mono HB3.out.size)
 have q1:=(HG.out g1 (in_hblk.1 _ (by rw[blk_of];simp))).1
 have q2:=(HG.out g2 (in_hblk.2.1 _ (by rw[blk_of];simp))).1
 have q3:=(HG.out g3 (in_hblk.2.2.1 _ (by rw[blk_of];simp))).1
 have q4:=HB3.out.size
 clear SN BV HO3 HB3 HG
 generalize w3.alloc (hpb H (.slice (some ⟨g1,0,none⟩) H.row.length k1) (.slice (some ⟨g2,0,none⟩) H.roots.length k2) (.slice (some ⟨g3,0,none⟩) H.mourned.length k3) (.slice sa sn sc))=V at *
 go_upto_region 3 with (go_at_call 110;refine ST.mono ?_;clear ST;rintro e w5 ⟨u,rfl,N5,O5,C5⟩;have HN5:Hid _:=N5;have HO5:Hid _:=O5;have HB5:Hid (Below X.heap.size X w5):=HB4.out.trans (below_ch C5 HB4.out.size (fun k hk=>by have e':k=w3.heap.size∨k=g1∨k=g2∨k=g3:=(by simpa using hk);omega));obtain⟨ua,un,uc,rfl⟩:=ints_slice (own_ints O5.1.2.2.2);clear N5 O5 C5)
 have HBW:Hid _:=HBX.out.trans (HB5.out.mono HBX.out.size)
 obtain⟨⟨z0,z1,z2,z3,z4⟩,⟨z5,z6,z7,z8⟩,_⟩:=nine_cells HN5.out
 obtain⟨⟨y0,y1,y2,y3,y4⟩,⟨y5,y6,y7,y8⟩,_⟩:=nine_cells (nine_below HT0.out HB5.out)
 have A5:=hpAt_below HAX.out HB5.out
 have I1:=own_ints HO5.out.1.1
 have I2:=own_ints HO5.out.1.2.1
 have I3:=own_ints HO5.out.1.2.2.1
 have HL1:Hid (∀W,Below w5.heap.size w5 W→Calls Tryz.prog 40 #[.slice (some ⟨g1,0,none⟩) H.row.length k1,.slice a1 H.row.length c1] W fun e w'=>e = .returned (.bool (decide (strRow H (objL H ps)=H.row)))∧Below W.heap.size W w'):=fun W hW=>(l1Same_any (xs:=strRow H (objL H ps)) (intsAt_below (show IntsAt w5 _ (strRow H (objL H ps)) from I1) hW) (intsAt_below A5.1 hW) (by rw[HSR.out];omega)).mono (fun e w' ⟨he,hw⟩=>⟨he,bel_of_drewN hw⟩)
 have HL2:Hid (∀W,Below w5.heap.size w5 W→Calls Tryz.prog 40 #[.slice (some ⟨g2,0,none⟩) H.roots.length k2,.slice a2 H.roots.length c2] W fun e w'=>e = .returned (.bool (decide (H.roots.map (fol H)=H.roots)))∧Below W.heap.size W w'):=fun W hW=>(l1Same_any (xs:=H.roots.map (fol H)) (intsAt_below (show IntsAt w5 _ (H.roots.map (fol H)) from I2) hW) (intsAt_below A5.2.1 hW) (by rw[List.length_map];omega)).mono (fun e w' ⟨he,hw⟩=>⟨he,bel_of_drewN hw⟩)
 have HL3:Hid (∀W,Below w5.heap.size w5 W→Calls Tryz.prog 40 #[.slice (some ⟨g3,0,none⟩) H.mourned.length k3,.slice a3 H.mourned.length c3] W fun e w'=>e = .returned (.bool (decide (H.mourned.map (fol H)=H.mourned)))∧Below W.heap.size W w'):=fun W hW=>(l1Same_any (xs:=H.mourned.map (fol H)) (intsAt_below (show IntsAt w5 _ (H.mourned.map (fol H)) from I3) hW) (intsAt_below A5.2.2.1 hW) (by rw[List.length_map];omega)).mono (fun e w' ⟨he,hw⟩=>⟨he,bel_of_drewN hw⟩)
 have L1:=HL1.out w5 (Below.refl _ _)
 rw[HE1.out]at L1
 clear A5 I1 I2 I3 HAX
 cases b1
 ·have e0:b0=false:=HB0.out
  subst e0
  go_wp2_with (first|(go_at_call 40;refine (L1.mono ?_);clear L1;rintro e w6 ⟨rfl,b1⟩;have HB1':Hid _:=b1;clear b1 z0 z1 z2 z3 z4 z5 z6 z7 z8 y0 y1 y2 y3 y4 y5 y6 y7 y8;obtain⟨⟨z0,z1,z2,z3,z4⟩,⟨z5,z6,z7,z8⟩,_⟩:=nine_cells (nine_below HN5.out HB1'.out);obtain⟨⟨y0,y1,y2,y3,y4⟩,⟨y5,y6,y7,y8⟩,_⟩:=nine_cells (nine_below HT0.out (HB5.out.trans (HB1'.out.mono HB5.out.size)));have L2:=HL2.out w6 HB1'.out;rw[HE2.out]at L2))
  exact bodyPost_ret (v:=.bool false) (by simp[results,go_sem]) rfl ⟨rfl,HBW.out.trans (HB1'.out.mono HBW.out.size)⟩
 ·cases b2
  ·have e0:b0=false:=HB0.out
   subst e0
   go_wp2_with (first|(go_at_call 40;refine (L1.mono ?_);clear L1;rintro e w6 ⟨rfl,b1⟩;have HB1':Hid _:=b1;clear b1 z0 z1 z2 z3 z4 z5 z6 z7 z8 y0 y1 y2 y3 y4 y5 y6 y7 y8;obtain⟨⟨z0,z1,z2,z3,z4⟩,⟨z5,z6,z7,z8⟩,_⟩:=nine_cells (nine_below HN5.out HB1'.out);obtain⟨⟨y0,y1,y2,y3,y4⟩,⟨y5,y6,y7,y8⟩,_⟩:=nine_cells (nine_below HT0.out (HB5.out.trans (HB1'.out.mono HB5.out.size)));have L2:=HL2.out w6 HB1'.out;rw[HE2.out]at L2)|(go_at_call 40;refine (L2.mono ?_);clear L2;rintro e w7 ⟨rfl,b2⟩;have HB2':Hid _:=HB1'.out.trans (b2.mono HB1'.out.size);clear b2 z0 z1 z2 z3 z4 z5 z6 z7 z8 y0 y1 y2 y3 y4 y5 y6 y7 y8;obtain⟨⟨z0,z1,z2,z3,z4⟩,⟨z5,z6,z7,z8⟩,_⟩:=nine_cells (nine_below HN5.out HB2'.out);obtain⟨⟨y0,y1,y2,y3,y4⟩,⟨y5,y6,y7,y8⟩,_⟩:=nine_cells (nine_below HT0.out (HB5.out.trans (HB2'.out.mono HB5.out.size)));have L3:=HL3.out w7 HB2'.out;rw[HE3.out]at L3))
   exact bodyPost_ret (v:=.bool false) (by simp[results,go_sem]) rfl ⟨rfl,HBW.out.trans (HB2'.out.mono HBW.out.size)⟩
  ·have e0:b0=b3:=HB0.out
   subst e0
   go_wp2_with (first|(go_at_call 40;refine (L1.mono ?_);clear L1;rintro e w6 ⟨rfl,b1⟩;have HB1':Hid _:=b1;clear b1 z0 z1 z2 z3 z4 z5 z6 z7 z8 y0 y1 y2 y3 y4 y5 y6 y7 y8;obtain⟨⟨z0,z1,z2,z3,z4⟩,⟨z5,z6,z7,z8⟩,_⟩:=nine_cells (nine_below HN5.out HB1'.out);obtain⟨⟨y0,y1,y2,y3,y4⟩,⟨y5,y6,y7,y8⟩,_⟩:=nine_cells (nine_below HT0.out (HB5.out.trans (HB1'.out.mono HB5.out.size)));have L2:=HL2.out w6 HB1'.out;rw[HE2.out]at L2)|(go_at_call 40;refine (L2.mono ?_);clear L2;rintro e w7 ⟨rfl,b2⟩;have HB2':Hid _:=HB1'.out.trans (b2.mono HB1'.out.size);clear b2 z0 z1 z2 z3 z4 z5 z6 z7 z8 y0 y1 y2 y3 y4 y5 y6 y7 y8;obtain⟨⟨z0,z1,z2,z3,z4⟩,⟨z5,z6,z7,z8⟩,_⟩:=nine_cells (nine_below HN5.out HB2'.out);obtain⟨⟨y0,y1,y2,y3,y4⟩,⟨y5,y6,y7,y8⟩,_⟩:=nine_cells (nine_below HT0.out (HB5.out.trans (HB2'.out.mono HB5.out.size)));have L3:=HL3.out w7 HB2'.out;rw[HE3.out]at L3)|(go_at_call 40;refine (L3.mono ?_);clear L3;rintro e w8 ⟨rfl,b3⟩;have HB3':Hid _:=HB2'.out.trans (b3.mono HB2'.out.size);clear b3 z0 z1 z2 z3 z4 z5 z6 z7 z8 y0 y1 y2 y3 y4 y5 y6 y7 y8;obtain⟨⟨z0,z1,z2,z3,z4⟩,⟨z5,z6,z7,z8⟩,_⟩:=nine_cells (nine_below HN5.out HB3'.out);obtain⟨⟨y0,y1,y2,y3,y4⟩,⟨y5,y6,y7,y8⟩,_⟩:=nine_cells (nine_below HT0.out (HB5.out.trans (HB3'.out.mono HB5.out.size)))))
   exact bodyPost_ret (v:=.bool b0) (by simp[results,go_sem]) rfl ⟨rfl,HBW.out.trans (HB3'.out.mono HBW.out.size)⟩
end Go.Proofs.YtocidankimefpaaGreatDoor.hp
namespace Go.Proofs.YtocidankimefpaaGreatDoor.hp
open Go.RowKit rows heads words walks region
set_option maxRecDepth 100000
set_option linter.unusedVariables false
set_option linter.unusedSimpArgs false
theorem field_slotsC (s f c h:Int) (p m:Bool) (w:World):(Instr.field 54 (hv s f c h p m) 0).run Tryz.prog w = .ok (.int .i64 s) w:=rfl
def clW (L:List Int) (x:Int):Bool:= !(isA x && !(decide (av x ∈ L)))
theorem isCl_yes {H:Hp} {L:List Int} (h:∀t,t<L.length→∀k,k<(slotsOf H (L.getD t 0)).length→clW L ((slotsOf H (L.getD t 0)).getD k 0)=true):isCl H L=true:=by
 unfold isCl
 rw[List.all_eq_true]
 intro p hp
 obtain⟨t,ht,rfl⟩:=List.getElem_of_mem hp
 rw[List.all_eq_true]
 intro x hx
 obtain⟨k,hk,rfl⟩:=List.getElem_of_mem hx
 have e:L.getD t 0=L[t]:=by rw[List.getD_eq_getElem?_getD,List.getElem?_eq_getElem ht];rfl
 have:=h t ht k (by rw[e];exact hk)
 rw[e,List.getD_eq_getElem?_getD,List.getElem?_eq_getElem hk]at this
 exact this
theorem isCl_no {H:Hp} {L:List Int} {t k:Nat} (ht:t<L.length) (hk:k<(slotsOf H (L.getD t 0)).length) (h:clW L ((slotsOf H (L.getD t 0)).getD k 0)=false):isCl H L=false:=by
 have hm:L.getD t 0 ∈ L:=by rw[List.getD_eq_getElem?_getD,List.getElem?_eq_getElem ht];exact List.getElem_mem _
 generalize L.getD t 0=p at *
 have hx:(slotsOf H p).getD k 0 ∈ slotsOf H p:=by rw[List.getD_eq_getElem?_getD,List.getElem?_eq_getElem hk];exact List.getElem_mem _
 generalize (slotsOf H p).getD k 0=x at *
 cases e:isCl H L
 ·rfl
 ·unfold isCl at e
  rw[List.all_eq_true]at e
  have:=e p hm
  rw[List.all_eq_true]at this
  have:=this x hx
  unfold clW at h
  rw[this]at h
  cases h
set_option maxHeartbeats 32000000 in
theorem l15Closed_any {w:World} {vr vo vm vs:Value} {H:Hp} (h:HpAt w vr vo vm vs H) {ps L:List Int} (RR:Rt H ps) (hL:IsMarks H L) {la:Option Addr} {lc:Nat} (hl:IntsAt w (.slice la L.length lc) L) :
    Calls Tryz.prog 59 #[hpv H vr vo vm vs,.slice la L.length lc] w fun e w'=>e = .returned (.bool (isCl H L))∧Below w.heap.size w w':=by
 obtain⟨a1,c1,a2,c2,a3,c3,a4,c4,e1,e2,e3,e4⟩:=hpAt_slices h
 subst e1 e2 e3 e4
 have hrl:=RR.len
 have hol:L.length≤500:=RR.marks_len hL.1 (fun a ha=>(hL.2 a).1 ha)
 have HALL:Hid (∃X,X=w.alloc (hpb H (.slice a1 H.row.length c1) (.slice a2 H.roots.length c2) (.slice a3 H.mourned.length c3) (.slice a4 H.seen.length c4))∧Nine X w.heap.size 26 (.int .i64 H.half) (.int .i64 H.old) (.slice a1 H.row.length c1) (.int .i64 H.side) (.int .i64 H.top) (.slice a2 H.roots.length c2) (.slice a3 H.mourned.length c3) (.slice a4 H.seen.length c4) (.int .i64 H.seed)∧Below w.heap.size w X∧IntsAt X (.slice a1 H.row.length c1) H.row∧IntsAt X (.slice la L.length lc) L):=by
  have B:=(Below.refl w.heap.size w).alloc (Nat.le_refl _) (hpb H (.slice a1 H.row.length c1) (.slice a2 H.roots.length c2) (.slice a3 H.mourned.length c3) (.slice a4 H.seen.length c4))
  exact⟨_,rfl,nine_new w H _ _ _ _,B,intsAt_below h.1 B,intsAt_below hl B⟩
 have HPO:Hid (∀i,i<L.length→∃j cn:Nat,L.getD i 0=(j:Int)∧j<H.row.length∧uS (H.row.getD j 0)=(cn:Int)∧(slotsOf H (j:Int)).length=cn∧j+1+cn≤H.row.length∧∀k,k<cn→(slotsOf H (j:Int)).getD k 0=H.row.getD (j+1+k) 0):=fun i hi=>by
  have hm:L.getD i 0 ∈ L:=by rw[List.getD_eq_getElem?_getD,List.getElem?_eq_getElem hi];exact List.getElem_mem hi
  have o:=RR.mk_at ((hL.2 _).1 hm)
  obtain⟨j,ej,hjl,hc⟩:=RR.plc _ o.1
  have h6:=o.2.1
  have h7:=o.2.2
  rw[ej]at h6 h7
  unfold fm at h6 h7
  rw[Int.toNat_natCast]at h6 h7
  have hcn:cnS (H.row.getD j 0)=uS (H.row.getD j 0):=by unfold cnS;rw[if_neg h7,if_neg h6]
  have qf:=chunk_fits hc h6
  have sl:=slots_len (H:=H) hc
  rw[hcn]at sl
  refine⟨j,(uS (H.row.getD j 0)).toNat,ej,hjl,by omega,sl,by omega,fun k hk=>slots_getD (by rw[hcn];exact hk)⟩
 have HYE:Hid _:= @isCl_yes H L
 have HNO:Hid (∀t k,t<L.length→k<(slotsOf H (L.getD t 0)).length→clW L ((slotsOf H (L.getD t 0)).getD k 0)=false→isCl H L=false):=fun t k a b c=>isCl_no a b c
 have HSA:Hid (∀(V:World) (z:Int) (E:Ext V.heap.size V),Calls Tryz.prog 87 #[.int .i64 z] E.to fun e w''=>e = .returned (.tuple #[.int .i64 (av z),.bool (isA z)])∧∃y:Ext V.heap.size V,w''=y.to):=fun V z E=>(sAddrOf_any z E.to).mono fun e w' ⟨he,hw⟩=>⟨he,E,hw⟩
 obtain⟨b0,hb0'⟩:∃b0,isCl H L=b0:=⟨_,rfl⟩
 rw[hb0']
 have HB0:Hid _:=hb0'
 clear h RR hL hl hb0'
 go_enter Tryz.func59,Tryz.ntmps59
 go_upto_region 1 with fail
 obtain⟨X,hX,T0,BX,IR,IL⟩:=HALL.out
 rw[←hX]
 clear hX HALL
 have HT0:Hid _:=T0
 have HBX:Hid _:=BX
 have HIR:Hid _:=IR
 have HIL:Hid _:=IL
 clear T0 BX IR IL
 go_wp2_with fail
 go_loopw [5,6,7,8] (fun v _ _ _ wr=>∃i:Nat,i≤L.length∧v = .int .i64 (i:Int)∧(∀t,t<i→∀k,k<(slotsOf H (L.getD t 0)).length→clW L ((slotsOf H (L.getD t 0)).getD k 0)=true)∧Below X.heap.size X wr) (fun v _ _ _ _=>L.length-(intOf v).toNat)
 case atStart=>exact⟨0,Nat.zero_le _,rfl,fun t ht=>absurd ht (Nat.not_lt_zero _),Below.refl _ _⟩
 case round=>
  obtain⟨i,hi,rfl,hdone,hB⟩:=hrel
  have HDN:Hid _:=hdone
  have HBR:Hid _:=hB
  by_cases hlt:i<L.length
  ·have hlt':(i:Int)<(L.length:Int):=by omega
   obtain⟨j,cn,hj,hjl,hus,hsl,hend,hsg⟩:=HPO.out i hlt
   have HJ:Hid _:=hj
   have HSL:Hid _:=hsl
   have HSG:Hid _:=hsg
   have HUS:Hid _:=hus
   clear hdone hB hj hsl hsg hus
   go_wp2_with fail
   go_loopw [6,7,8] (fun v _ _ wr=>∃k:Nat,k≤cn∧v = .int .i64 (k:Int)∧(∀t,t<k→clW L (H.row.getD (j+1+t) 0)=true)∧Below X.heap.size X wr) (fun v _ _ _=>cn-(intOf v).toNat)
   case atStart=>exact⟨0,Nat.zero_le _,rfl,fun t ht=>absurd ht (Nat.not_lt_zero _),HBR.out⟩
   case round=>
    obtain⟨k,hk,rfl,hkd,hB2⟩:=hrel
    have HKD:Hid _:=hkd
    have HB2:Hid _:=hB2
    have IR2:=intsAt_below HIR.out hB2
    have IL2:=intsAt_below HIL.out hB2
    have HIR2:Hid _:=IR2
    have HIL2:Hid _:=IL2
    obtain⟨lb,lo,ev,hlb,x0⟩:=ints_cell IL2 hlt
    subst ev
    rw[HJ.out]at x0
    obtain⟨⟨z0,z1,z2,z3,z4⟩,⟨z5,z6,z7,z8⟩⟩:=nine_grow (nine_below HT0.out hB2)
    have Y1:=cell_grow x0
    have HL4:Hid (∀E:Ext wr.heap.size wr,Calls Tryz.prog 45 #[.slice a1 H.row.length c1,.int .i64 (j:Int)] E.to fun e w''=>e = .returned (hv (cn:Int) (uF (H.row.getD j 0)) (uC (H.row.getD j 0)) (uH (H.row.getD j 0)) (uP (H.row.getD j 0)) (uM (H.row.getD j 0)))∧∃y:Ext wr.heap.size wr,w''=y.to):=fun E=>calls_grow (Nat.le_refl _) (by
     have L':=l4Head_any (intsAt_below HIR2.out E.below) j hjl
     unfold hw at L'
     rw[HUS.out]at L'
     exact L')
    have FS:=field_slotsC (cn:Int) (uF (H.row.getD j 0)) (uC (H.row.getD j 0)) (uH (H.row.getD j 0)) (uP (H.row.getD j 0)) (uM (H.row.getD j 0))
    have x0':=x0
    clear hkd hB2 IR2 IL2
    generalize uF (H.row.getD j 0)=f at *
    generalize uC (H.row.getD j 0)=c at *
    generalize uH (H.row.getD j 0)=g at *
    generalize uP (H.row.getD j 0)=p at *
    generalize uM (H.row.getD j 0)=m at *
    go_upto_region 5 with fail
    haveI:=ext_any wr
    refine region_grow (n:=wr.heap.size) (by kernel_rfl) (by kernel_rfl) ?_
    repeat (go_big_quiet_step (first|(go_at_call 45;exact HL4.out _)))
    refine wpQuiet_nil ?_
    intro _ hw'
    obtain⟨E,rfl⟩:=hw'
    have HB9:Hid _:=HB2.out.trans (E.below.mono HB2.out.size)
    clear z0 z1 z2 z3 z4 z5 z6 z7 z8 Y1 HL4 x0 x0' HIR2 HIL2 FS
    generalize E.to=W7 at *
    clear E this
    by_cases hkl:k<cn
    ·have hkl':(k:Int)<(cn:Int):=by omega
     have IR9:=intsAt_below HIR.out HB9.out
     have HIL9:Hid _:=intsAt_below HIL.out HB9.out
     obtain⟨rb',ro,ev,hrb,y0⟩:=ints_cell IR9 (k:=j+1+k) (by omega)
     obtain⟨_,_,ev2,hlb9,x0⟩:=ints_cell HIL9.out hlt
     injection ev2 with ev2
     injection ev2 with ev3 ev4
     subst ev3 ev4
     rw[HJ.out]at x0
     have N9:=nine_below HT0.out HB9.out
     rw[ev]at N9
     clear IR9 ev
     obtain⟨⟨z0,z1,z2,z3,z4⟩,⟨z5,z6,z7,z8⟩⟩:=nine_grow N9
     have Y0:=cell_grow y0
     have Y1:=cell_grow x0
     have HS3:Hid _:=HSA.out W7
     have HCW:Hid (k<(slotsOf H (L.getD i 0)).length∧(slotsOf H (L.getD i 0)).getD k 0=H.row.getD (j+1+k) 0):=by
      show _∧_
      rw[HJ.out]
      exact⟨by rw[HSL.out];exact hkl,HSG.out k hkl⟩
     have HNX:Hid (clW L (H.row.getD (j+1+k) 0)=true→∀t,t<k+1→clW L (H.row.getD (j+1+t) 0)=true):=fun e t ht=>by
      by_cases et:t=k
      ·subst et;exact e
      ·exact HKD.out t (by omega)
     have HCD:Hid (clW L (H.row.getD (j+1+k) 0) = !(isA (H.row.getD (j+1+k) 0) && !(decide (av (H.row.getD (j+1+k) 0) ∈ L)))):=rfl
     have HN2:Hid (clW L (H.row.getD (j+1+k) 0)=false→b0=false):=fun e=>HB0.out.symm.trans (HNO.out i k hlt HCW.out.1 (by rw[HCW.out.2];exact e))
     have i1:((j:Int)+1+(k:Int)).toNat=j+1+k:=by omega
     have i2:(0:Int)≤(j:Int)+1+(k:Int):=by omega
     have i3:(j:Int)+1+(k:Int)<(H.row.length:Int):=by omega
     have ib:IntKind.i64.wrap ((j:Int)+1)=(j:Int)+1:=by rw[IntKind.wrap_i64];omega
     have ic:IntKind.i64.wrap ((j:Int)+1+(k:Int))=(j:Int)+1+(k:Int):=by rw[IntKind.wrap_i64];omega
     clear y0 x0 N9 HCW HKD
     generalize hgx:H.row.getD (j+1+k) 0=x at *
     clear hgx
     generalize clW L x=cw at *
     go_upto_region 7 with fail
     haveI:=ext_any W7
     refine region_grow (n:=W7.heap.size) (by kernel_rfl) (by kernel_rfl) ?_
     repeat (go_big_quiet_step (first|(go_at_call 87;exact HS3.out _ _)))
     refine wpQuiet_nil ?_
     intro _ hw'
     obtain⟨E,rfl⟩:=hw'
     have HBA:Hid _:=HB9.out.trans (E.below.mono HB9.out.size)
     have HILA:Hid _:=intsAt_below HIL9.out E.below
     clear z0 z1 z2 z3 z4 z5 z6 z7 z8 Y0 Y1 HS3 HIL9 HB9
     generalize E.to=W8 at *
     clear E this
     have HSH:=l1Has_any HILA.out (by omega) (av x)
     cases dA:isA x
     ·have HE:Hid (cw=true):=HCD.out.trans (by rw[dA];rfl)
      have HD2:Hid _:=HNX.out HE.out
      clear dA HSH HCD HNX HN2 HE
      go_wp2
      exact⟨⟨k+1,by omega,by go_num,HD2.out,HBA.out⟩,by simp[intOf];omega⟩
     ·by_cases hin:av x ∈ L
      ·have HE:Hid (cw=true):=HCD.out.trans (by rw[dA,decide_eq_true hin];rfl)
       have HD2:Hid _:=HNX.out HE.out
       rw[decide_eq_true hin]at HSH
       generalize av x=az at *
       clear dA HCD HNX HN2 hin HE
       go_wp2_with (go_at_call 61;refine HSH.mono ?_;clear HSH;rintro e w4 ⟨rfl,hw4⟩;rw[hw4];clear hw4 w4)
       exact⟨⟨k+1,by omega,by go_num,HD2.out,HBA.out⟩,by simp[intOf];omega⟩
      ·have HE:cw=false:=HCD.out.trans (by rw[dA,decide_eq_false hin];rfl)
       have e0:b0=false:=HN2.out HE
       subst e0
       rw[decide_eq_false hin]at HSH
       generalize av x=az at *
       clear dA HCD HNX HN2 hin HE
       go_wp2_with (go_at_call 61;refine HSH.mono ?_;clear HSH;rintro e w4 ⟨rfl,hw4⟩;rw[hw4];clear hw4 w4)
       exact bodyPost_ret (v:=.bool false) (by simp[results,go_sem]) rfl ⟨rfl,HBX.out.trans (HBA.out.mono HBX.out.size)⟩
    ·have hkl':¬(k:Int)<(cn:Int):=by omega
     have e:k=cn:=by omega
     subst e
     go_wp2
     exact⟨⟨i+1,by omega,by go_num,fun t ht=>by
      by_cases et:t=i
      ·subst et
       intro k' hk'
       rw[HJ.out]at hk' ⊢
       rw[HSL.out]at hk'
       rw[HSG.out k' hk']
       exact HKD.out k' hk'
      ·exact HDN.out t (by omega),HB9.out⟩,by simp[intOf];omega⟩
  ·have hlt':¬(i:Int)<(L.length:Int):=by omega
   have e:i=L.length:=by omega
   subst e
   have e0:b0=true:=HB0.out.symm.trans (HYE.out HDN.out)
   subst e0
   clear hdone hB
   go_wp2
   exact bodyPost_ret (v:=.bool true) (by simp[results,go_sem]) rfl ⟨rfl,HBX.out.trans (HBR.out.mono HBX.out.size)⟩
end Go.Proofs.YtocidankimefpaaGreatDoor.hp
