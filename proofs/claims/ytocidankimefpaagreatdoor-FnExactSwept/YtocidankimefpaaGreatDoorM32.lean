/-
  Chapter 15 as the specification has it: Swept. Chapter 13 as the program has it: all to which words lead is marked. Chapter 13 as the program has it: what a house marks. Chapter 15 as the program has it: what Swept's pieces want of a right heap.
-/
import Derived.Test.YtocidankimefpaaGreatDoorSwpS3
import Derived.Test.YtocidankimefpaaGreatDoorM30
import Derived.Test.YtocidankimefpaaGreatDoorM23
import Derived.Test.YtocidankimefpaaGreatDoorMarkI3
import Derived.Test.YtocidankimefpaaGreatDoorM27
import Derived.Test.YtocidankimefpaaGreatDoorM31
import Derived.Test.YtocidankimefpaaGreatDoorSwpP1
import Derived.Test.YtocidankimefpaaGreatDoorSwpI7
namespace Go.Proofs.YtocidankimefpaaGreatDoor.hp
open Go.RowKit rows heads words walks
set_option maxRecDepth 100000
set_option linter.unusedVariables false
set_option linter.unusedSimpArgs false
theorem swpOk_is {H:Hp} {L ps:List Int} (h:heapOk H=true) (R:Rt H ps):swpOk H L=swpA H ps L:=by
 unfold swpOk
 rw[if_pos h,R.some',Option.getD_some]
theorem hpv_swp (H:Hp) (ps L:List Int) (a b c d:Value):hpv (swpA H ps L) a b c d=hpv H a b c d:=by unfold swpA;split<;>rfl
theorem swpOk_size {H:Hp} {L:List Int} (hs:hpSize H≤1048576):hpSize (swpOk H L)≤1048576:=by
 by_cases h:heapOk H=true
 ·obtain⟨ps,R⟩:=rt_of (ok_right h).1
  rw[swpOk_is h R]
  unfold swpA
  split
  ·have hris:Rising (objL H ps):=(places_rising R.some').filter _
   obtain⟨rr,uu,ll,F,T,_,hF,hT,hTl,hsl,_,_,hCl,hpl,hup,_,_⟩:=swp_places (L:=L) R.some' hris
   have hl:=(places_plc hpl).2
   rw[List.length_append]at hl
   have hsn:(seenL (swpC H ps L)).length≤500:=by
    unfold seenL
    rw[hup,Option.getD_some]
    exact Nat.le_trans (List.length_filter_le _ _) (by omega)
   have hrl:=R.len
   have N:=(places_facts R.some').1
   have hr6:=N.roots
   have hm40:=N.mourned
   show (swpC H ps L).row.length+H.roots.length+H.mourned.length+(seenL (swpC H ps L)).length≤_
   omega
  ·exact hs
 ·unfold swpOk
  rw[if_neg h]
  exact Nat.zero_le _
set_option maxHeartbeats 16000000 in
theorem sSwept_any {w:World} {vr vo vm vs:Value} {H:Hp} {L:List Int} (hM:IsMarksOk H L) (h:HpAt w vr vo vm vs H) (hs:hpSize H≤1048576) :
    Calls Tryz.prog 12 #[hpv H vr vo vm vs] w fun e w'=>∃(o' r' m' s':Value),e = .returned (hpv (swpOk H L) o' r' m' s')∧OwnH w' w.heap.size o' r' m' s' (swpOk H L)∧Below w.heap.size w w':=by
 obtain⟨a1,c1,a2,c2,a3,c3,a4,c4,e1,e2,e3,e4⟩:=hpAt_slices h
 subst e1 e2 e3 e4
 have B0:Below w.heap.size w (w.alloc (hpb H (.slice a1 H.row.length c1) (.slice a2 H.roots.length c2) (.slice a3 H.mourned.length c3) (.slice a4 H.seen.length c4))):=(Below.refl _ _).alloc (Nat.le_refl _) _
 have B1:=B0.alloc B0.size (hpb ⟨0,0,[],0,0,[],[],[],0⟩ (.slice none 0 0) (.slice none 0 0) (.slice none 0 0) (.slice none 0 0))
 have T0:=nine_new w H (.slice a1 H.row.length c1) (.slice a2 H.roots.length c2) (.slice a3 H.mourned.length c3) (.slice a4 H.seen.length c4)
 have T0':=nine_below T0 ((Below.refl _ _).alloc (Nat.le_refl _) (hpb ⟨0,0,[],0,0,[],[],[],0⟩ (.slice none 0 0) (.slice none 0 0) (.slice none 0 0) (.slice none 0 0)))
 have T1:Nine ((w.alloc (hpb H (.slice a1 H.row.length c1) (.slice a2 H.roots.length c2) (.slice a3 H.mourned.length c3) (.slice a4 H.seen.length c4))).alloc (hpb ⟨0,0,[],0,0,[],[],[],0⟩ (.slice none 0 0) (.slice none 0 0) (.slice none 0 0) (.slice none 0 0))) (w.heap.size+1) 26 (.int .i64 0) (.int .i64 0) (.slice none 0 0) (.int .i64 0) (.int .i64 0) (.slice none 0 0) (.slice none 0 0) (.slice none 0 0) (.int .i64 0):=(congrArg (fun k=>((w.alloc (hpb H (.slice a1 H.row.length c1) (.slice a2 H.roots.length c2) (.slice a3 H.mourned.length c3) (.slice a4 H.seen.length c4))).alloc (hpb ⟨0,0,[],0,0,[],[],[],0⟩ (.slice none 0 0) (.slice none 0 0) (.slice none 0 0) (.slice none 0 0))).heap[k]?) (show w.heap.size+1=(w.alloc (hpb H (.slice a1 H.row.length c1) (.slice a2 H.roots.length c2) (.slice a3 H.mourned.length c3) (.slice a4 H.seen.length c4))).heap.size by simp)).trans (heap_alloc_new _ _)
 have sX:w.heap.size+2=((w.alloc (hpb H (.slice a1 H.row.length c1) (.slice a2 H.roots.length c2) (.slice a3 H.mourned.length c3) (.slice a4 H.seen.length c4))).alloc (hpb ⟨0,0,[],0,0,[],[],[],0⟩ (.slice none 0 0) (.slice none 0 0) (.slice none 0 0) (.slice none 0 0))).heap.size:=by simp
 have HHX:=hpAt_below h B1
 have HB1:Hid _:=B1
 have HT0:Hid _:=T0'
 have HT1:Hid _:=T1
 have HSZ:Hid _:=hs
 obtain⟨R,hR⟩:∃R,swpOk H L=R:=⟨_,rfl⟩
 rw[hR]
 have HR:Hid _:=hR
 clear h B0 B1 T0 T0' T1 hR
 go_enter Tryz.func12,Tryz.ntmps12
 go_upto_region 1 with fail
 generalize hX:(w.alloc _).alloc _=X at *
 have HsX:Hid _:=sX
 clear hX sX
 have HK:=sHeapOk_any HHX hs
 have HH:Hid _:=HHX
 clear HHX hs
 obtain⟨⟨z0,z1,z2,z3,z4⟩,⟨z5,z6,z7,z8⟩,_⟩:=nine_cells HT0.out
 cases dr:heapOk H
 ·rw[dr]at HK
  have e:swpOk H L=hp0:=by unfold swpOk;rw[if_neg (by rw[dr];decide)]
  obtain rfl:hp0=R:=e.symm.trans HR.out
  clear dr e HR hM
  go_upto_region 2 with (go_at_call 15;refine HK.mono ?_;clear HK z0 z1 z2 z3 z4 z5 z6 z7 z8;rintro e w2 ⟨rfl,b2⟩;have HBE:Hid _:=HB1.out.trans (b2.mono HB1.out.size);have HN1:Hid _:=nine_below HT1.out b2;clear b2)
  obtain⟨⟨y0,y1,y2,y3,y4⟩,⟨y5,y6,y7,y8⟩,yf⟩:=nine_cells HN1.out
  have f0:=yf 0
  have f1:=yf 1
  have f2:=yf 2
  have f3:=yf 3
  have f4:=yf 4
  have f5:=yf 5
  have f6:=yf 6
  have f7:=yf 7
  have f8:=yf 8
  clear yf
  go_wp2_with fail
  exact bodyPost_ret (res_heap rfl rfl (nine_sets HN1.out _ _ _ _ _ _ _ _ _)) rfl ⟨_,_,_,_,rfl,own0 _ _,nine_belows HBE.out (by omega) _ _ _ _ _ _ _ _ _⟩
 ·rw[dr]at HK
  obtain⟨ps,RR⟩:=rt_of (ok_right dr).1
  have e:swpOk H L=swpA H ps L:=swpOk_is dr RR
  obtain rfl:swpA H ps L=R:=e.symm.trans HR.out
  have HML:Hid (IsMarks H L):=by
   rcases hM with ⟨e,_⟩|⟨_,e⟩
   ·rw[dr]at e;cases e
   ·exact e
  have HRR:Hid _:=RR
  have HCP:Hid (∀V,HpAt V (.slice a1 H.row.length c1) (.slice a2 H.roots.length c2) (.slice a3 H.mourned.length c3) (.slice a4 H.seen.length c4) H→_):=fun V hV=>l9Copy_any hV HSZ.out
  clear dr e RR HR hM
  go_upto_region 4 with (first
   |(go_at_call 15;refine HK.mono ?_;clear HK z0 z1 z2 z3 z4 z5 z6 z7 z8;rintro e w2 ⟨rfl,b2⟩;have HB2:Hid _:=HB1.out.trans (b2.mono HB1.out.size);have HX2:Hid _:=b2.size;obtain⟨⟨z0,z1,z2,z3,z4⟩,⟨z5,z6,z7,z8⟩,_⟩:=nine_cells (nine_below HT0.out b2);have HN1:Hid _:=nine_below HT1.out b2;have CP:=HCP.out w2 (hpAt_below HH.out b2);clear b2 HCP)
   |(go_at_call 16;refine CP.mono ?_;clear CP z0 z1 z2 z3 z4 z5 z6 z7 z8;rintro e w3 ⟨g1,g2,g3,k1,k2,k3,s',rfl,O3,b3⟩;have HO3:Hid _:=O3;have HB3:Hid _:=HB2.out.trans (b3.mono HB2.out.size);have HX3:Hid _:=b3.size;have HN3:Hid _:=nine_below HN1.out b3;obtain⟨sa,sn,sc,rfl⟩:=ints_slice (own_ints O3.1.2.2.2);clear O3 b3))
  have SN:=ss_new HO3.out
  have BV:Below w3.heap.size w3 (w3.alloc (hpb H (.slice (some ⟨g1,0,none⟩) H.row.length k1) (.slice (some ⟨g2,0,none⟩) H.roots.length k2) (.slice (some ⟨g3,0,none⟩) H.mourned.length k3) (.slice sa sn sc))):=(Below.refl _ _).alloc (Nat.le_refl _) _
  have ST:=l15Sweep_any HRR.out HML.out SN.1 SN.2 (Nat.le_trans HX3.out BV.size) HSZ.out
  have HG:Hid _:=ownH_lt HO3.out
  have HN4:Hid _:=nine_below HN3.out BV
  have HB4:Hid _:=HB3.out.trans (BV.mono HB3.out.size)
  have HV4:Hid _:=BV.size
  clear SN BV HO3 HN3 HN1
  generalize w3.alloc (hpb H (.slice (some ⟨g1,0,none⟩) H.row.length k1) (.slice (some ⟨g2,0,none⟩) H.roots.length k2) (.slice (some ⟨g3,0,none⟩) H.mourned.length k3) (.slice sa sn sc))=V at *
  have q1:=(HG.out g1 (in_hblk.1 _ (by rw[blk_of];simp))).1
  have q2:=(HG.out g2 (in_hblk.2.1 _ (by rw[blk_of];simp))).1
  have q3:=(HG.out g3 (in_hblk.2.2.1 _ (by rw[blk_of];simp))).1
  have q4:=HX3.out
  have q5:=HX2.out
  have q6:=HsX.out
  have HLE:Hid (∀k ∈ [w3.heap.size,g1,g2,g3],w.heap.size+2≤k):=by
   intro k hk
   simp at hk
   omega
  clear q1 q2 q3 q4 q5 q6
  go_upto_region 5 with (go_at_call 30;refine ST.mono ?_;clear ST;rintro e w5 ⟨u,rfl,N5,O5,C5⟩;have HN5:Hid (Nine w5 w3.heap.size 26 (.int .i64 H.half) (.int .i64 H.old) (.slice (some ⟨g1,0,none⟩) H.row.length k1) (.int .i64 H.side) (.int .i64 H.top) (.slice (some ⟨g2,0,none⟩) H.roots.length k2) (.slice (some ⟨g3,0,none⟩) H.mourned.length k3) u (.int .i64 H.seed)):=(by have hsw:(swpA H ps L).half=H.half∧(swpA H ps L).old=H.old∧(swpA H ps L).side=H.side∧(swpA H ps L).top=H.top∧(swpA H ps L).seed=H.seed:=(by unfold swpA;split<;>exact⟨rfl,rfl,rfl,rfl,rfl⟩);rw[hsw.1,hsw.2.1,hsw.2.2.1,hsw.2.2.2.1,hsw.2.2.2.2]at N5;exact N5);have HO5:Hid _:=O5;have HC5:Hid _:=C5;obtain⟨ua,un,uc,rfl⟩:=ints_slice (own_ints O5.1.2.2.2);clear N5 O5 C5)
  obtain⟨⟨z0,z1,z2,z3,z4⟩,⟨z5,z6,z7,z8⟩,_⟩:=nine_cells HN5.out
  have HN6:Hid _:=nine_ch HN4.out HC5.out (fun hm=>by have:=HLE.out _ hm;omega)
  obtain⟨⟨y0,y1,y2,y3,y4⟩,⟨y5,y6,y7,y8⟩,yf⟩:=nine_cells HN6.out
  have f0:=yf 0
  have f1:=yf 1
  have f2:=yf 2
  have f3:=yf 3
  have f4:=yf 4
  have f5:=yf 5
  have f6:=yf 6
  have f7:=yf 7
  have f8:=yf 8
  clear yf
  have HB5:Hid _:=HB4.out.trans (below_ch HC5.out HB4.out.size (fun k hk=>by have:=HLE.out k hk;omega))
  have HX4:Hid (w.heap.size+2≤w2.heap.size):=by show _≤_;have:=HX2.out;have:=HsX.out;omega
  go_wp2_with fail
  refine bodyPost_ret (res_heap rfl rfl (nine_sets HN6.out _ _ _ _ _ _ _ _ _)) rfl ⟨.slice (some ⟨g1,0,none⟩) H.row.length k1,.slice (some ⟨g2,0,none⟩) H.roots.length k2,.slice (some ⟨g3,0,none⟩) H.mourned.length k3,.slice ua un uc,by rw[hpv_swp],?_,nine_belows HB5.out (by omega) _ _ _ _ _ _ _ _ _⟩
  have hx4:=HX4.out
  have H5:=HO5.out
  have on:∀ {v:Value} {xs:List Int},rows.Own w5 w2.heap.size v xs→∀ {W:World},Ch [w.heap.size+1] w5 W→rows.Own W w.heap.size v xs:=fun {v xs} ho {W} hc=>own_base (row_ch ho hc (fun j hj=>by have:=(blk_lt ho j hj).1;simp;omega)) (by omega)
  exact⟨⟨on H5.1.1 (nine_other _ _ _ _ _ _ _ _ _),on H5.1.2.1 (nine_other _ _ _ _ _ _ _ _ _),on H5.1.2.2.1 (nine_other _ _ _ _ _ _ _ _ _),on H5.1.2.2.2 (nine_other _ _ _ _ _ _ _ _ _)⟩,H5.2⟩
end Go.Proofs.YtocidankimefpaaGreatDoor.hp
namespace Go.Proofs.YtocidankimefpaaGreatDoor.hp
open Go.RowKit rows heads words walks Go.Maps
set_option maxRecDepth 100000
set_option linter.unusedVariables false
set_option linter.unusedSimpArgs false
theorem drop_next {L:List Int} {k:Nat} (h:k<L.length):L.drop k=L.getD k 0 :: L.drop (k+1):=by
 rw[List.drop_eq_getElem_cons h,List.getD_eq_getElem?_getD,List.getElem?_eq_getElem h]
 rfl
theorem MI.next {H:Hp} {M:List Int} {Wt:Int→List Int} {Q A:Int→Prop} {L:List Int} {k:Nat} (h:MI H M Wt (fun x=>Q x∨x ∈ L.drop k) A) (hk:k<L.length) (hx:InM H M (L.getD k 0)):MI H M Wt (fun x=>Q x∨x ∈ L.drop (k+1)) A:=by
 refine h.mono (fun x e => ?_)
 rcases e with e|e
 ·exact .inl (.inl e)
 ·rw[drop_next hk]at e
  rcases List.mem_cons.1 e with rfl|e
  ·exact .inr hx
  ·exact .inl (.inr e)
def RowP (b off:Nat) (H:Hp) (ds:List Pd):Prop:=∀i,i<ds.length→∃j:Nat,ds.getD i pdD=pdOf (some ⟨b,off,none⟩) H.row j∧chunk H.row j≠0
set_option maxHeartbeats 32000000 in
theorem mark_all {W0:World} {C mb base:Nat} {up:Int} {a:Option Addr} {cap:Nat} {H:Hp} {ps:List Int} {ds:List Pd} {sl:Pd→List Int} (hv:RoomsAt W0 (.slice a ds.length cap) ds sl) (hF:FolP H ps ds sl) (hr:AllI H.row) {b off rc:Nat} (hx:IntsAt W0 (.slice (some ⟨b,off,none⟩) H.row.length rc) H.row) (hl:H.row.length≤1000) (hD:RowP b off H ds) :
    ∀N,MarkAll W0 C mb base up (.slice a ds.length cap) H ps N:=by
 intro N
 induction N using Nat.strongRecOn with
 |_ N IH=>
 intro W m s Q A lv L hN hS hI hok hsd hL hK
 obtain⟨la,lc,hlv⟩:∃a c,lv = .slice a L.length c:=by
  obtain⟨a,c,e,_⟩:=hK W (ChP.refl _ _)
  exact⟨a,c,e⟩
 subst hlv
 have HFR:Hid (∀V m1 A' Q',MR W0 C mb base up (.slice a ds.length cap) (okW H ps) s m W m1 V→MI H m1.M m1.Wt Q' A'→∀i,i<ds.length→∀x,okW H ps x→tgt H x=some (ds.getD i pdD).pl→Mk H (ds.getD i pdD).pl→(ds.getD i pdD).pl ∉ m1.M→Calls Tryz.prog 118 #[.pointer (some ⟨C,0,none⟩),pdv (ds.getD i pdD)] V fun e w'=>e = .returned (.tuple #[])∧∃m',MR W0 C mb base up (.slice a ds.length cap) (okW H ps) s m W m' w'∧MI H m'.M m'.Wt Q' A'∧(ds.getD i pdD).pl ∈ m'.M):=by
  intro V m1 A' Q' mr mi i hi x hox ht hmk hnm
  obtain⟨j,hj,hc⟩:=hD i hi
  rw[hj]at ht hmk hnm ⊢
  rw[pdOf_pl]at ht hmk hnm ⊢
  obtain⟨o1,o2,o3⟩:=hF.rt.tgt_at hox.1 ht
  unfold fm at o2 o3
  rw[Int.toNat_natCast]at o2 o3
  refine (from_any hv hF hr hx hl IH (Nat.le_trans (by have:=mr.ln;omega) hN) mr.ms mi hc o2 o3 o1 hmk hnm).mono ?_
  rintro e w' ⟨rfl,m',mr',mi',hj'⟩
  exact⟨rfl,m',mr.trans mr',mi',hj'⟩
 have HST:Hid (∀V m1,MR W0 C mb base up (.slice a ds.length cap) (okW H ps) s m W m1 V→∀x,okW H ps x→_):=fun V m1 mr x hox=>standing_any (up:=up) (hv.below mr.ms.low) hF hr x hox.1 hox.2
 have HK:Hid _:=hK
 have HS:Hid _:=hS
 have HI:Hid (MI H m.M m.Wt (fun x=>Q x∨x ∈ L.drop 0) A):=hI
 have HOK:Hid _:=hok
 have HSD:Hid _:=hsd
 have HSL:Hid _:=hv.slices
 clear hv hF hr hx hl hD IH hN hS hI hok hsd hK
 go_enter Tryz.func69,Tryz.ntmps69
 go_wp2_with fail
 go_loopw [5,6,7,10] (fun _ _ _ p wr=>∃k:Nat,k≤L.length∧p = .int .i64 k∧∃m1,MR W0 C mb base up (.slice a ds.length cap) (okW H ps) s m W m1 wr∧MI H m1.M m1.Wt (fun x=>Q x∨x ∈ L.drop k) A) (fun _ _ _ p _=>L.length-(intOf p).toNat)
 case atStart=>exact⟨0,Nat.zero_le _,rfl,m,MR.refl HS.out,HI.out⟩
 case round=>
  obtain⟨k,hk,rfl,m1,mr,mi⟩:=hrel
  clear HS HI
  by_cases hlt:k<L.length
  ·obtain⟨a',cap',e,_,_,_,hc⟩:=HK.out wr mr.ch
   injection e with e1 e2 e3
   subst e1 e3
   obtain⟨b,off,rfl,hb,hcc⟩:=hc (by omega)
   have y0:=hcc k hlt
   clear hc hcc e2
   have hmem:L.getD k 0 ∈ L:=by
    rw[List.getD_eq_getElem?_getD,List.getElem?_eq_getElem hlt]
    exact List.getElem_mem hlt
   have hox:=HOK.out _ hmem
   have ST:=HST.out wr m1 mr _ hox
   have HMR:Hid _:=mr
   have HMI:Hid _:=mi
   have HNX:Hid (∀V m2,MR W0 C mb base up (.slice a ds.length cap) (okW H ps) s m W m2 V→MI H m2.M m2.Wt (fun x=>Q x∨x ∈ L.drop k) A→InM H m2.M (L.getD k 0)→∃m1,MR W0 C mb base up (.slice a ds.length cap) (okW H ps) s m W m1 V∧MI H m1.M m1.Wt (fun x=>Q x∨x ∈ L.drop (k+1)) A):=fun V m2 r1 r2 r3=>⟨m2,r1,r2.next hlt r3⟩
   obtain⟨⟨z0,z1,z2,z3⟩,_⟩:=mkb_cells mr.ms.blk'
   have HFX:Hid _:=fun V mr' i hi=>HFR.out V m1 A (fun x=>Q x∨x ∈ L.drop k) mr' mi i hi (L.getD k 0) hox
   have HTG:Hid (∀p,tgt H (L.getD k 0)=some p→Mk H p):=fun p hp=>HSD.out _ hmem p hp
   have hlt':(k:Int)<(L.length:Int):=by omega
   clear hmem hox
   generalize L.getD k 0=x at *
   cases dA:isA (fol H x)
   ·have ST0:=ST.mono (fun e w' (hh:_∧_∧_)=>(⟨hh.1 dA,hh.2.2⟩:e = .returned (.tuple #[pdv pdD,.bool false])∧Below wr.heap.size wr w'))
    have HIN:Hid (InM H m1.M x):=fun p hp=>by rw[tgt_no dA]at hp;cases hp
    clear ST dA mr mi HFX HTG HFR HST
    go_upto_region 4 with (go_at_call 117;refine ST0.mono ?_;clear ST0 z0 z1 z2 z3;rintro e w1 ⟨rfl,b1⟩;have HB1:Hid _:=b1;clear b1)
    have HB2:Hid _:=HB1.out.alloc HB1.out.size (pdb pdD)
    generalize w1.alloc (pdb pdD)=Y at *
    go_quiet (fail)
    have HE:Hid _:=HNX.out (Y.drewN nq) m1 (HMR.out.below (HB2.out.trans ((bel_of_drewN ⟨nq,rfl⟩).mono HB2.out.size))) HMI.out HIN.out
    clear HNX
    go_wp2
    exact⟨⟨k+1,by omega,by go_num,HE.out⟩,by simp[intOf];omega⟩
   ·have ST1:=ST.mono (fun e w' (hh:_∧_∧_)=>(⟨hh.2.1 dA,hh.2.2⟩:(∃i,i<ds.length∧(ds.getD i pdD).pl=av (fol H x)∧e = .returned (.tuple #[pdv (ds.getD i pdD),.bool true]))∧Below wr.heap.size wr w'))
    have htx:=tgt_yes dA
    have hml:=mr.ms.ml
    generalize av (fol H x)=kk at *
    have HTX:Hid _:=htx
    have HAS:Hid (∀V q,Below wr.heap.size wr V→Calls Tryz.prog 35 #[.pointer (some ⟨C,2,none⟩),.int .i64 kk] (V.drewN q) fun e w'=>e = .returned (.bool (decide (kk ∈ m1.M)))∧w'=V.drewN q):=fun V q hV=>by
     have hS':=mr.ms.below (hV.trans ((bel_of_drewN ⟨q,rfl⟩).mono hV.size))
     exact hasM_any (mkb_cells hS'.blk').1.2.2.1 (own_ints hS'.mown) mi.rise (by omega) kk
    have HCE:Hid (∀V,Below wr.heap.size wr V→V.cell? ⟨C,2,none⟩=some m1.vm):=fun V hV=>(mkb_cells (mr.ms.below hV).blk').1.2.2.1
    have HF2:Hid (kk ∉ m1.M→∀V,MR W0 C mb base up (.slice a ds.length cap) (okW H ps) s m W m1 V→∀i,i<ds.length→(ds.getD i pdD).pl=kk→Calls Tryz.prog 118 #[.pointer (some ⟨C,0,none⟩),pdv (ds.getD i pdD)] V fun e w'=>e = .returned (.tuple #[])∧∃m1,MR W0 C mb base up (.slice a ds.length cap) (okW H ps) s m W m1 w'∧MI H m1.M m1.Wt (fun x=>Q x∨x ∈ L.drop (k+1)) A):=fun hnk V mr' i hi hpl=>by
     have F:=HFX.out V mr' i hi
     rw[hpl]at F
     refine (F htx (HTG.out kk htx) hnk).mono ?_
     rintro e w' ⟨rfl,m2,r1,r2,r3⟩
     exact⟨rfl,HNX.out w' m2 r1 r2 (fun p hp=>by rw[htx]at hp;injection hp with hp;rw[←hp];exact r3)⟩
    by_cases hkM:kk ∈ m1.M
    ·simp only[decide_eq_true hkM]at HAS
     have HIN:Hid (InM H m1.M x):=fun p hp=>by rw[htx]at hp;injection hp with hp;rw[←hp];exact hkM
     clear ST dA mr mi HFX HTG HFR HST HF2 hkM htx hml HTX
     go_upto_region 4 with (go_at_call 117;refine ST1.mono ?_;clear ST1 z0 z1 z2 z3;rintro e w1 ⟨⟨i,hi,hpl,rfl⟩,b1⟩;have HB1:Hid _:=b1;obtain⟨sa,sn,sc,hsv⟩:=HSL.out _ (mem_getDP hi);obtain⟨d,hd⟩:∃d,ds.getD i pdD=d:=⟨_,rfl⟩;rw[hd]at hsv hpl ⊢; clear b1 hd;obtain⟨ds',df,dc,dh,dp,dm,du,dl⟩:=d;simp only at hsv hpl;subst hsv;subst hpl)
     have HB2:Hid _:=HB1.out.alloc HB1.out.size (pdb ⟨ds',df,dc,dh,dp,dm,.slice sa sn sc,dl⟩)
     obtain⟨⟨_,_,_,_,_,_,_,p7⟩,_⟩:=pdb_cells (heap_alloc_new w1 (pdb ⟨ds',df,dc,dh,dp,dm,.slice sa sn sc,dl⟩))
     simp only at p7
     generalize w1.alloc (pdb ⟨ds',df,dc,dh,dp,dm,.slice sa sn sc,dl⟩)=Y at *
     have HAY:Hid _:=fun q=>HAS.out Y q HB2.out
     clear HAS
     go_quiet ((go_at_call 35;exact (HAY.out _).mono fun _ _ ⟨he,hm⟩=>⟨he,_,hm⟩))
     have HE:Hid _:=HNX.out (Y.drewN nq) m1 (HMR.out.below (HB2.out.trans ((bel_of_drewN ⟨nq,rfl⟩).mono HB2.out.size))) HMI.out HIN.out
     clear HNX
     go_wp2
     exact⟨⟨k+1,by omega,by go_num,HE.out⟩,by simp[intOf];omega⟩
    ·simp only[decide_eq_false hkM]at HAS
     have HFK:Hid _:=HF2.out hkM
     clear ST dA mr mi HFX HTG HFR HST HF2 hkM htx hml HTX
     go_upto_region 4 with (go_at_call 117;refine ST1.mono ?_;clear ST1 z0 z1 z2 z3;rintro e w1 ⟨⟨i,hi,hpl,rfl⟩,b1⟩;have HB1:Hid _:=b1;obtain⟨sa,sn,sc,hsv⟩:=HSL.out _ (mem_getDP hi);have HFI:Hid _:=fun V mr'=>HFK.out V mr' i hi hpl;obtain⟨d,hd⟩:∃d,ds.getD i pdD=d:=⟨_,rfl⟩;rw[hd]at hsv hpl ⊢; simp only[hd]at HFI;clear b1 hd HFK;obtain⟨ds',df,dc,dh,dp,dm,du,dl⟩:=d;simp only at hsv hpl;subst hsv;subst hpl)
     have HB2:Hid _:=HB1.out.alloc HB1.out.size (pdb ⟨ds',df,dc,dh,dp,dm,.slice sa sn sc,dl⟩)
     obtain⟨⟨p0,p1,p2,p3,p4,p5,p6,p7⟩,_⟩:=pdb_cells (heap_alloc_new w1 (pdb ⟨ds',df,dc,dh,dp,dm,.slice sa sn sc,dl⟩))
     simp only at p0 p1 p2 p3 p4 p5 p6 p7
     generalize w1.alloc (pdb ⟨ds',df,dc,dh,dp,dm,.slice sa sn sc,dl⟩)=Y at *
     have HAY:Hid _:=fun q=>HAS.out Y q HB2.out
     clear HAS
     go_quiet ((go_at_call 35;exact (HAY.out _).mono fun _ _ ⟨he,hm⟩=>⟨he,_,hm⟩))
     have CF:=HFI.out (Y.drewN nq) (HMR.out.below (HB2.out.trans ((bel_of_drewN ⟨nq,rfl⟩).mono HB2.out.size)))
     clear HNX HFI HAY
     go_wp2_with (go_at_call 118;refine CF.mono ?_;clear CF;rintro e w3 ⟨rfl,hE⟩;have HE:Hid _:=hE;clear hE)
     exact⟨⟨k+1,by omega,by go_num,HE.out⟩,by simp[intOf];omega⟩
  ·have e:k=L.length:=by omega
   subst e
   rw[List.drop_length]at mi
   have HMR:Hid _:=mr
   have HMI:Hid (MI H m1.M m1.Wt Q A):=mi.mono (fun x e=>e.elim .inl (fun e=>by cases e))
   clear mr mi HFR HST
   go_wp2
   exact bodyPost_end (results_none rfl _ _ _) rfl ⟨rfl,m1,HMR.out,HMI.out⟩
theorem res_setM {fn:Func} {tmps:Array Value} {X:World} {j b:Nat} {a:Option Addr} {n c:Nat} (hf:fn.results=#[.cell j 71]) (h2:tmps[j]? = some (.pointer (some ⟨b,0,none⟩))) (hX:X.heap[b]? = some (stb (.slice a n c))) :
    (results fn tmps).run Tryz.prog X = .ok (.agg #[.slice a n c]) X:=by
 obtain⟨k0,_⟩:=stb_cells hX
 clear hX
 simp[results,hf,h2,go_sem,k0]
abbrev mm0:Mm:=⟨nilV,0,.map [],fun _=>nilV,[],fun _=>[]⟩
theorem blk_nilV:blk nilV=[]:=by simp[blk,Value.ownBlock]
theorem mm0_start (X:World) (up:Int) (v:Value) (ok:Int→Prop):MS X (X.heap.size+1) X.heap.size (X.heap.size+2) up v ok mm0 0 ((X.alloc (.map #[] 0)).alloc (mkb up v nilV X.heap.size)):=by
 have B1:Below X.heap.size X (X.alloc (.map #[] 0)):=(Below.refl _ _).alloc (Nat.le_refl _) _
 have B2:Below X.heap.size X ((X.alloc (.map #[] 0)).alloc (mkb up v nilV X.heap.size)):=B1.alloc B1.size _
 have q:=heap_alloc_new (X.alloc (.map #[] 0)) (mkb up v nilV X.heap.size)
 have e:(X.alloc (.map #[] 0)).heap.size=X.heap.size+1:=by simp
 rw[e]at q
 exact { low:=B2,c0:=by omega,c1:=by omega,m0:=Nat.le_refl _,m1:=by omega,cm:=by omega,bz:=by simp,blk':=q,map:=(World.ownsMap_made X Tryz.prog 2 heldV).alloc _,tidy:=Maps.tidy_empty,look:=fun a=>rfl,
         mown:=⟨rfl,.inl ⟨rfl,rfl⟩⟩,wown:=fun a=>⟨rfl,.inl ⟨rfl,rfl⟩⟩,ap:=fun a b _ k hk=>(by rw[blk_nilV]at hk;cases hk),am:=fun a k hk=>(by rw[blk_nilV]at hk;cases hk),wok:=fun a x hx=>(by cases hx),nl:=Nat.le_refl _,wl:=fun a=>Nat.le_refl _,ml:=Nat.zero_le _ }
set_option maxHeartbeats 16000000 in
theorem marks_any {w:World} {b off c1 c2 c3 c4 c5:Nat} {a2 a3 a4 a5:Option Addr} {H:Hp} {ps:List Int} {ds:List Pd} {sl:Pd→List Int} (h:HpAt w (.slice (some ⟨b,off,none⟩) H.row.length c1) (.slice a2 H.roots.length c2) (.slice a3 H.mourned.length c3) (.slice a4 H.seen.length c4) H) (hv:RoomsAt w (.slice a5 ds.length c5) ds sl) (hF:FolP H ps ds sl) (hI:HpI H) (hl:H.row.length≤1000) (hl2:H.roots.length≤1000) (hl3:H.mourned.length≤1000) (hD:RowP b off H ds) {L:List Int} (hL:IsMarks H L) (up:Int) :
    Calls Tryz.prog 32 #[hov H (.slice (some ⟨b,off,none⟩) H.row.length c1) (.slice a2 H.roots.length c2) (.slice a3 H.mourned.length c3) (.slice a4 H.seen.length c4) up (.slice a5 ds.length c5)] w fun e w'=>∃u,e = .returned (.agg #[u])∧rows.Own w' w.heap.size u L∧Below w.heap.size w w':=by
 have hmm:= @run_makeMap Tryz.prog
 have B0:Below w.heap.size w (w.alloc (hob H (.slice (some ⟨b,off,none⟩) H.row.length c1) (.slice a2 H.roots.length c2) (.slice a3 H.mourned.length c3) (.slice a4 H.seen.length c4) up (.slice a5 ds.length c5))):=(Below.refl _ _).alloc (Nat.le_refl _) _
 have B1:=B0.alloc B0.size (stb nilV)
 have HALL:Hid (∃X,X=(w.alloc (hob H (.slice (some ⟨b,off,none⟩) H.row.length c1) (.slice a2 H.roots.length c2) (.slice a3 H.mourned.length c3) (.slice a4 H.seen.length c4) up (.slice a5 ds.length c5))).alloc (stb nilV)∧X.heap[w.heap.size]? = some (hob H (.slice (some ⟨b,off,none⟩) H.row.length c1) (.slice a2 H.roots.length c2) (.slice a3 H.mourned.length c3) (.slice a4 H.seen.length c4) up (.slice a5 ds.length c5))∧X.heap[w.heap.size+1]? = some (stb nilV)∧Below w.heap.size w X∧X.heap.size=w.heap.size+2):=
  ⟨_,rfl,heap_alloc2_old _ _ _,heap_alloc2_new _ _ _,B1,by simp⟩
 have HHP:Hid _:=h
 have HRM:Hid _:=hv
 have HMA:Hid (∀X,Below w.heap.size w X→∀N,MarkAll X (X.heap.size+1) X.heap.size (X.heap.size+2) up (.slice a5 ds.length c5) H ps N):=fun X hX N=>mark_all (hv.below hX) hF hI.2.1 (intsAt_below h.1 hX) hl hD N
 have HOR:Hid (∀x ∈ H.roots,okW H ps x):=fun x hx=>⟨hF.rt.root_in (List.mem_append_left _ hx),hI.2.2.1 x hx⟩
 have HOM:Hid (∀x ∈ H.mourned,okW H ps x):=fun x hx=>⟨hF.rt.root_in (List.mem_append_right _ hx),hI.2.2.2.1 x hx⟩
 have HL:Hid _:=hL
 clear B0 B1 h hv hF hI hD hL hl
 go_enter Tryz.func32,Tryz.ntmps32
 go_upto_region 1 with fail
 obtain⟨X,hX,q0,q1,BX,sX⟩:=HALL.out
 rw[←hX]
 clear hX HALL
 have HBX:Hid _:=BX
 have HQ0:Hid _:=q0
 have HQ1:Hid _:=q1
 have HSX:Hid _:=sX
 obtain⟨⟨m0,m1,m2,m3,m4,m5,m6,m7,m8,m9,m10⟩,_⟩:=hob_cells q0
 have MS0:=mm0_start X up (.slice a5 ds.length c5) (okW H ps)
 have HMS:Hid _:=MS0
 have HCE:Hid (∀V,Below X.heap.size X V→V.cell? ⟨w.heap.size,5,none⟩=some (.slice a2 H.roots.length c2)∧V.cell? ⟨w.heap.size,6,none⟩=some (.slice a3 H.mourned.length c3)):=fun V hV=>by
  obtain⟨⟨_,_,_,_,_,k5,k6,_⟩,_⟩:=hob_cells ((hV.block _ (lt_of_block HQ0.out)).trans HQ0.out)
  exact⟨k5,k6⟩
 have t5:=(HCE.out _ MS0.low).1
 have HLO:Hid (∀V s' m',MS X (X.heap.size+1) X.heap.size (X.heap.size+2) up (.slice a5 ds.length c5) (okW H ps) m' s' V→∀W',ChP (m'.fs (X.heap.size+1) X.heap.size) V W'→Below w.heap.size w W'):=fun V s' m' h W' hW'=>HBX.out.trans ((h.low.trans (below_chP hW' h.low.size (fun k hk=>(h.fsLow hk).1))).mono HBX.out.size)
 have MI0:MI H mm0.M mm0.Wt (fun x=>x ∈ H.mourned∨x ∈ H.roots) (fun _=>False):=(mI_start H).mono (fun x hx => .inl ((List.mem_append.1 hx).elim .inr .inl))
 have CM1:=HMA.out X HBX.out 600 _ mm0 0 (fun x=>x ∈ H.mourned) (fun _=>False) (.slice a2 H.roots.length c2) H.roots (by omega) MS0 MI0 HOR.out (fun x hx a ha=>(mk_closed H).1 x (List.mem_append_left _ hx) a ha) (by omega) (fun W' hW'=>intsAt_below HHP.out.2.1 (HLO.out _ _ _ MS0 W' hW'))
 have HC2:Hid (∀w1 m',MR X (X.heap.size+1) X.heap.size (X.heap.size+2) up (.slice a5 ds.length c5) (okW H ps) 0 mm0 ((X.alloc (.map #[] 0)).alloc (mkb up (.slice a5 ds.length c5) nilV X.heap.size)) m' w1→MI H m'.M m'.Wt (fun x=>x ∈ H.mourned) (fun _=>False)→Calls Tryz.prog 69 #[.pointer (some ⟨X.heap.size+1,0,none⟩),.slice a3 H.mourned.length c3] w1 fun e w'=>e = .returned (.tuple #[])∧∃u,w'.cell? ⟨X.heap.size+1,2,none⟩=some u∧rows.Own w' w.heap.size u L∧(w.heap.size+1) ∉ blk u∧Below X.heap.size X w'):=fun w1 m' mr mi=>by
  refine (HMA.out X HBX.out (600-m'.M.length) w1 m' 0 (fun _=>False) (fun _=>False) (.slice a3 H.mourned.length c3) H.mourned (Nat.le_refl _) mr.ms (mi.mono (fun x hx => .inl (.inr hx))) HOM.out (fun x hx a ha=>(mk_closed H).1 x (List.mem_append_right _ hx) a ha) (by omega) (fun W' hW'=>intsAt_below HHP.out.2.2.1 (HLO.out _ _ _ mr.ms W' hW'))).mono ?_
  rintro e w' ⟨rfl,m2,mr2,mi2⟩
  have eL:m2.M=L:=isMarks_eq mi2.fin HL.out
  have hsx:=HSX.out
  refine⟨rfl,m2.vm,(mkb_cells mr2.ms.blk').1.2.2.1,by rw[←eL];exact own_base mr2.ms.mown (by omega),fun hc => ?_,mr2.ms.low⟩
  have:=blk_lt mr2.ms.mown _ hc
  omega
 clear q0 q1 BX sX MS0 MI0 HMA HOR HOM HLO HMS
 go_upto_region 2 with fail
 generalize hYY:(X.alloc (.map #[] 0)).alloc (mkb up (.slice a5 ds.length c5) nilV X.heap.size)=Y at *
 clear hYY m0 m1 m2 m3 m4 m5 m6 m7 m8 m9 m10
 go_wp2_with fail
 refine CM1.mono ?_
 clear CM1 t5
 rintro e w1 ⟨rfl,m',mr,mi⟩
 have CM2:=HC2.out w1 m' mr mi
 have t6:=(HCE.out w1 mr.ms.low).2
 clear HC2 mr mi HCE
 go_wp2_with fail
 refine CM2.mono ?_
 clear CM2 t6
 rintro e w2 ⟨rfl,u,hu,hO,hnb,hb⟩
 obtain⟨ua,un,uc,rfl⟩:=ints_slice (own_ints hO)
 have q2:=(hb.block _ (lt_of_block HQ1.out)).trans HQ1.out
 obtain⟨y0,f0⟩:=stb_cells q2
 have HQ2:Hid _:=q2
 have HO:Hid _:=hO
 have HNB:Hid _:=hnb
 have HB:Hid _:=HBX.out.trans (hb.mono HBX.out.size)
 clear q2 hO hnb hb
 go_wp2_with fail
 refine bodyPost_ret (res_setM rfl rfl (stb_set HQ2.out _)) rfl ⟨_,rfl,?_,?_⟩
 ·exact row_ch (S:=[w.heap.size+1]) HO.out (one_ch _ _ _ _) (fun k hk=>by simp;rintro rfl;exact HNB.out hk)
 ·exact HB.out.setCell (p:=⟨w.heap.size+1,0,none⟩) (Nat.le_succ _) _
end Go.Proofs.YtocidankimefpaaGreatDoor.hp
namespace Go.Proofs.YtocidankimefpaaGreatDoor.hp
open Go.RowKit rows heads words walks
set_option maxRecDepth 100000
set_option linter.unusedVariables false
set_option linter.unusedSimpArgs false
theorem closed_of {w:World} {b off c1 c2 c3 c4 c5:Nat} {a2 a3 a4 a5:Option Addr} {H:Hp} {ps L:List Int} (dr:heapOk H=true) (hro:roomB (some ⟨b,off,none⟩) H=true) (FP:FolP H ps (objsP (some ⟨b,off,none⟩) H) (slP H.row)) (h:HpAt w (.slice (some ⟨b,off,none⟩) H.row.length c1) (.slice a2 H.roots.length c2) (.slice a3 H.mourned.length c3) (.slice a4 H.seen.length c4) H) (hv:RoomsAt w (.slice a5 (objsP (some ⟨b,off,none⟩) H).length c5) (objsP (some ⟨b,off,none⟩) H) (slP H.row)) (hI:HpI H) (up:Int) {pN:Addr} (hG:Glob w pN) {la:Option Addr} {lc:Nat} (hL:IntsAt w (.slice la L.length lc) L) (hM:IsMarks H L) :
    Calls Tryz.prog 34 #[hov H (.slice (some ⟨b,off,none⟩) H.row.length c1) (.slice a2 H.roots.length c2) (.slice a3 H.mourned.length c3) (.slice a4 H.seen.length c4) up (.slice a5 (objsP (some ⟨b,off,none⟩) H).length c5),.agg #[.slice la L.length lc]] w fun e w'=>e = .returned (.bool (isClP H L))∧Below w.heap.size w w':=by
 have hll:L.length≤500:=FP.rt.marks_len hM.1 (fun a ha=>(hM.2 a).1 ha)
 have hpl:=objs_places (a:=some ⟨b,off,none⟩) dr
 rw[FP.rt.some',Option.getD_some]at hpl
 refine isClosed_any h.1 hv hv.pds FP hI.2.1 hG up hL hM (by omega) FP.rt.len hv.len (fun i hi => ?_) (fun p hp => ?_)
 ·obtain⟨j,q1,q2,q3,q4,q5,q6,q7⟩:=obj_step dr FP.rt hro hi
  obtain⟨j',ed,hc,h6⟩:=objs_in hro _ (mem_getDP hi)
  have ej:j'=j:=by
   have:((objsP (some ⟨b,off,none⟩) H).getD i pdD).pl=(j':Int):=by rw[ed];rfl
   omega
  subst ej
  have qf:=chunk_fits hc h6
  refine⟨j',(uS (H.row.getD j' 0)).toNat,(chunk H.row j').toNat,?_,fun hin => ?_⟩
  ·rw[ed]
   unfold pdOf
   rw[piece_at b off j' _ (by omega),Int.toNat_of_nonneg qf.1]
  ·have h7:uF (H.row.getD j' 0)≠7:=by
     have o:=FP.rt.mk_at ((hM.2 _).1 hin)
     have:=o.2.2
     unfold fm at this
     rw[Int.toNat_natCast]at this
     exact this
   have hcn:cnS (H.row.getD j' 0)=uS (H.row.getD j' 0):=by unfold cnS;rw[if_neg h7,if_neg h6]
   have hl:=slots_len (H:=H) hc
   rw[hcn]at hl
   refine⟨hl,by omega,fun k hk => ?_⟩
   have hg:=slots_getD (H:=H) (j:=j') (k:=k) (by rw[hcn];exact hk)
   have hk':k<(slotsOf H (j':Int)).length:=by omega
   refine⟨hg,?_⟩
   rw[←hg]
   refine q7 _ ?_
   rw[List.getD_eq_getElem?_getD,List.getElem?_eq_getElem hk'];exact List.getElem_mem hk'
 ·have hm:=marks_objL FP.rt hM p hp
  rw[←hpl]at hm
  unfold plL at hm
  obtain⟨d,hd,e⟩:=List.mem_map.1 hm
  obtain⟨i,hi,rfl⟩:=List.getElem_of_mem hd
  refine⟨i,hi,?_⟩
  rw[List.getD_eq_getElem?_getD,List.getElem?_eq_getElem hi]
  exact e
end Go.Proofs.YtocidankimefpaaGreatDoor.hp
