/-
  Chapter 15 as the specification has it: Compacted. Chapter 15 as the program has it: Compacted.
-/
import Derived.Test.YtemlagfaaibenaaGreatCmpS2
import Derived.Test.YtemlagfaaibenaaGreatM16
import Derived.Test.YtemlagfaaibenaaGreatM13
import Derived.Test.YtemlagfaaibenaaGreatM17
import Derived.Test.YtemlagfaaibenaaGreatCmpI5
import Derived.Test.YtemlagfaaibenaaGreatM18
namespace Go.Proofs.YtemlagfaaibenaaGreat.hp
open Go.RowKit rows heads words walks
set_option maxRecDepth 100000
set_option linter.unusedVariables false
set_option linter.unusedSimpArgs false
theorem cmpOk_is {H:Hp} {ps:List Int} (h:heapOk H=true) (R:Rt H ps):cmpOk H=cmpA H ps:=by
 unfold cmpOk
 rw[if_pos h,R.some',Option.getD_some]
theorem hpv_cmp (H:Hp) (ps:List Int) (a b c d:Value):hpv (cmpA H ps) a b c d=hpv H a b c d:=by unfold cmpA;split<;>rfl
theorem cmpOk_size {H:Hp} (hs:hpSize H≤1048576):hpSize (cmpOk H)≤1048576:=by
 by_cases h:heapOk H=true
 ·obtain⟨ps,R⟩:=rt_of (ok_right h).1
  rw[cmpOk_is h R]
  unfold cmpA
  split
  ·obtain⟨r,u,l,CP⟩:=cmp_parts R
   have N:=(places_facts R.some').1
   obtain⟨hpl,hup,_,_⟩:=CP.fin N
   have hl:=(places_plc hpl).2
   rw[List.length_append]at hl
   have hsn:(seenL (cmpC H)).length≤500:=by
    unfold seenL
    rw[hup,Option.getD_some]
    exact Nat.le_trans (List.length_filter_le _ _) (by omega)
   have hrl:=R.len
   have hr6:=N.roots
   have hm40:=N.mourned
   have e1:(cmpC H).row.length=H.row.length:=by
    show (ledP _ _ _).length=_
    rw[ledP_len];exact CP.len1
   have e2:(cmpC H).roots.length=H.roots.length:=List.length_map _
   have e3:(cmpC H).mourned.length=H.mourned.length:=List.length_map _
   show (cmpC H).row.length+(cmpC H).roots.length+(cmpC H).mourned.length+(seenL (cmpC H)).length≤_
   omega
  ·exact hs
 ·unfold cmpOk
  rw[if_neg h]
  exact Nat.zero_le _
set_option maxHeartbeats 16000000 in
theorem sCompacted_any {w:World} {vr vo vm vs:Value} {H:Hp} (h:HpAt w vr vo vm vs H) (hs:hpSize H≤1048576) :
    Calls Tryz.prog 14 #[hpv H vr vo vm vs] w fun e w'=>∃(o' r' m' s':Value),e = .returned (hpv (cmpOk H) o' r' m' s')∧OwnH w' w.heap.size o' r' m' s' (cmpOk H)∧Below w.heap.size w w':=by
 obtain⟨a1,c1,a2,c2,a3,c3,a4,c4,e1,e2,e3,e4⟩:=hpAt_slices h
 subst e1 e2 e3 e4
 have B0:Below w.heap.size w (w.alloc (hpb H (.slice a1 H.row.length c1) (.slice a2 H.roots.length c2) (.slice a3 H.mourned.length c3) (.slice a4 H.seen.length c4))):=(Below.refl _ _).alloc (Nat.le_refl _) _
 have B1:=B0.alloc B0.size (hpb ⟨0,0,[],0,0,[],[],[],0⟩ (.slice none 0 0) (.slice none 0 0) (.slice none 0 0) (.slice none 0 0))
 have T0:=nine_new w H (.slice a1 H.row.length c1) (.slice a2 H.roots.length c2) (.slice a3 H.mourned.length c3) (.slice a4 H.seen.length c4)
 have T0':=nine_below T0 ((Below.refl _ _).alloc (Nat.le_refl _) (hpb ⟨0,0,[],0,0,[],[],[],0⟩ (.slice none 0 0) (.slice none 0 0) (.slice none 0 0) (.slice none 0 0)))
 have T1:Nine ((w.alloc (hpb H (.slice a1 H.row.length c1) (.slice a2 H.roots.length c2) (.slice a3 H.mourned.length c3) (.slice a4 H.seen.length c4))).alloc (hpb ⟨0,0,[],0,0,[],[],[],0⟩ (.slice none 0 0) (.slice none 0 0) (.slice none 0 0) (.slice none 0 0))) (w.heap.size+1) 27 (.int .i64 0) (.int .i64 0) (.slice none 0 0) (.int .i64 0) (.int .i64 0) (.slice none 0 0) (.slice none 0 0) (.slice none 0 0) (.int .i64 0):=(congrArg (fun k=>((w.alloc (hpb H (.slice a1 H.row.length c1) (.slice a2 H.roots.length c2) (.slice a3 H.mourned.length c3) (.slice a4 H.seen.length c4))).alloc (hpb ⟨0,0,[],0,0,[],[],[],0⟩ (.slice none 0 0) (.slice none 0 0) (.slice none 0 0) (.slice none 0 0))).heap[k]?) (show w.heap.size+1=(w.alloc (hpb H (.slice a1 H.row.length c1) (.slice a2 H.roots.length c2) (.slice a3 H.mourned.length c3) (.slice a4 H.seen.length c4))).heap.size by simp)).trans (heap_alloc_new _ _)
 have sX:w.heap.size+2=((w.alloc (hpb H (.slice a1 H.row.length c1) (.slice a2 H.roots.length c2) (.slice a3 H.mourned.length c3) (.slice a4 H.seen.length c4))).alloc (hpb ⟨0,0,[],0,0,[],[],[],0⟩ (.slice none 0 0) (.slice none 0 0) (.slice none 0 0) (.slice none 0 0))).heap.size:=by simp
 have HHX:=hpAt_below h B1
 have HB1:Hid _:=B1
 have HT0:Hid _:=T0'
 have HT1:Hid _:=T1
 have HSZ:Hid _:=hs
 obtain⟨R,hR⟩:∃R,cmpOk H=R:=⟨_,rfl⟩
 rw[hR]
 have HR:Hid _:=hR
 clear h B0 B1 T0 T0' T1 hR
 go_enter Tryz.func14,Tryz.ntmps14
 go_upto_region 1 with fail
 generalize hX:(w.alloc _).alloc _=X at *
 have HsX:Hid _:=sX
 clear hX sX
 have HK:=sHeapOk_any HHX hs
 have HH:Hid _:=HHX
 clear HHX hs
 obtain⟨⟨z0,z1,z2,z3,z4⟩,⟨z5,z6,z7,z8⟩,_⟩:=nine_cells HT0.out
 cases dr:heapOk H
 ·rw[dr]at HK
  have e:cmpOk H=hp0:=by unfold cmpOk;rw[if_neg (by rw[dr];decide)]
  obtain rfl:hp0=R:=e.symm.trans HR.out
  clear dr e HR
  go_upto_region 2 with (go_at_call 25;refine HK.mono ?_;clear HK z0 z1 z2 z3 z4 z5 z6 z7 z8;rintro e w2 ⟨rfl,b2⟩;have HBE:Hid _:=HB1.out.trans (b2.mono HB1.out.size);have HN1:Hid _:=nine_below HT1.out b2;clear b2)
  obtain⟨⟨y0,y1,y2,y3,y4⟩,⟨y5,y6,y7,y8⟩,yf⟩:=nine_cells HN1.out
  have f0:=yf 0
  have f1:=yf 1
  have f2:=yf 2
  have f3:=yf 3
  have f4:=yf 4
  have f5:=yf 5
  have f6:=yf 6
  have f7:=yf 7
  have f8:=yf 8
  clear yf
  go_wp2_with fail
  exact bodyPost_ret (res_heap rfl rfl (nine_sets HN1.out _ _ _ _ _ _ _ _ _)) rfl ⟨_,_,_,_,rfl,own0 _ _,nine_belows HBE.out (by omega) _ _ _ _ _ _ _ _ _⟩
 ·rw[dr]at HK
  obtain⟨ps,RR⟩:=rt_of (ok_right dr).1
  have e:cmpOk H=cmpA H ps:=cmpOk_is dr RR
  obtain rfl:cmpA H ps=R:=e.symm.trans HR.out
  have HRR:Hid _:=RR
  have HCP:Hid (∀V,HpAt V (.slice a1 H.row.length c1) (.slice a2 H.roots.length c2) (.slice a3 H.mourned.length c3) (.slice a4 H.seen.length c4) H→_):=fun V hV=>l9Copy_any hV HSZ.out
  clear dr e RR HR
  go_upto_region 4 with (first
   |(go_at_call 25;refine HK.mono ?_;clear HK z0 z1 z2 z3 z4 z5 z6 z7 z8;rintro e w2 ⟨rfl,b2⟩;have HB2:Hid _:=HB1.out.trans (b2.mono HB1.out.size);have HX2:Hid _:=b2.size;obtain⟨⟨z0,z1,z2,z3,z4⟩,⟨z5,z6,z7,z8⟩,_⟩:=nine_cells (nine_below HT0.out b2);have HN1:Hid _:=nine_below HT1.out b2;have CP:=HCP.out w2 (hpAt_below HH.out b2);clear b2 HCP)
   |(go_at_call 26;refine CP.mono ?_;clear CP z0 z1 z2 z3 z4 z5 z6 z7 z8;rintro e w3 ⟨g1,g2,g3,k1,k2,k3,s',rfl,O3,b3⟩;have HO3:Hid _:=O3;have HB3:Hid _:=HB2.out.trans (b3.mono HB2.out.size);have HX3:Hid _:=b3.size;have HN3:Hid _:=nine_below HN1.out b3;obtain⟨sa,sn,sc,rfl⟩:=ints_slice (own_ints O3.1.2.2.2);clear O3 b3))
  have SN:=ss_new HO3.out
  have BV:Below w3.heap.size w3 (w3.alloc (hpb H (.slice (some ⟨g1,0,none⟩) H.row.length k1) (.slice (some ⟨g2,0,none⟩) H.roots.length k2) (.slice (some ⟨g3,0,none⟩) H.mourned.length k3) (.slice sa sn sc))):=(Below.refl _ _).alloc (Nat.le_refl _) _
  have ST:=l15Compact_any HRR.out SN.1 SN.2 (Nat.le_trans HX3.out BV.size) HSZ.out
  have HG:Hid _:=ownH_lt HO3.out
  have HN4:Hid _:=nine_below HN3.out BV
  have HB4:Hid _:=HB3.out.trans (BV.mono HB3.out.size)
  have HV4:Hid _:=BV.size
  clear SN BV HO3 HN3 HN1
  generalize w3.alloc (hpb H (.slice (some ⟨g1,0,none⟩) H.row.length k1) (.slice (some ⟨g2,0,none⟩) H.roots.length k2) (.slice (some ⟨g3,0,none⟩) H.mourned.length k3) (.slice sa sn sc))=V at *
  have q1:=(HG.out g1 (in_hblk.1 _ (by rw[blk_of];simp))).1
  have q2:=(HG.out g2 (in_hblk.2.1 _ (by rw[blk_of];simp))).1
  have q3:=(HG.out g3 (in_hblk.2.2.1 _ (by rw[blk_of];simp))).1
  have q4:=HX3.out
  have q5:=HX2.out
  have q6:=HsX.out
  have HLE:Hid (∀k ∈ [w3.heap.size,g1,g2,g3],w.heap.size+2≤k):=by
   intro k hk
   simp at hk
   omega
  clear q1 q2 q3 q4 q5 q6
  go_upto_region 5 with (go_at_call 27;refine ST.mono ?_;clear ST;rintro e w5 ⟨u,rfl,N5,O5,C5⟩;have HN5:Hid (Nine w5 w3.heap.size 27 (.int .i64 H.half) (.int .i64 H.old) (.slice (some ⟨g1,0,none⟩) H.row.length k1) (.int .i64 H.side) (.int .i64 H.top) (.slice (some ⟨g2,0,none⟩) H.roots.length k2) (.slice (some ⟨g3,0,none⟩) H.mourned.length k3) u (.int .i64 H.seed)):=(by have hsw:(cmpA H ps).half=H.half∧(cmpA H ps).old=H.old∧(cmpA H ps).side=H.side∧(cmpA H ps).top=H.top∧(cmpA H ps).seed=H.seed:=(by unfold cmpA;split<;>exact⟨rfl,rfl,rfl,rfl,rfl⟩);rw[hsw.1,hsw.2.1,hsw.2.2.1,hsw.2.2.2.1,hsw.2.2.2.2]at N5;exact N5);have HO5:Hid _:=O5;have HC5:Hid _:=C5;obtain⟨ua,un,uc,rfl⟩:=ints_slice (own_ints O5.1.2.2.2);clear N5 O5 C5)
  obtain⟨⟨z0,z1,z2,z3,z4⟩,⟨z5,z6,z7,z8⟩,_⟩:=nine_cells HN5.out
  have HN6:Hid _:=nine_ch HN4.out HC5.out (fun hm=>by have:=HLE.out _ hm;omega)
  obtain⟨⟨y0,y1,y2,y3,y4⟩,⟨y5,y6,y7,y8⟩,yf⟩:=nine_cells HN6.out
  have f0:=yf 0
  have f1:=yf 1
  have f2:=yf 2
  have f3:=yf 3
  have f4:=yf 4
  have f5:=yf 5
  have f6:=yf 6
  have f7:=yf 7
  have f8:=yf 8
  clear yf
  have HB5:Hid _:=HB4.out.trans (below_ch HC5.out HB4.out.size (fun k hk=>by have:=HLE.out k hk;omega))
  have HX4:Hid (w.heap.size+2≤w2.heap.size):=by show _≤_;have:=HX2.out;have:=HsX.out;omega
  go_wp2_with fail
  refine bodyPost_ret (res_heap rfl rfl (nine_sets HN6.out _ _ _ _ _ _ _ _ _)) rfl ⟨.slice (some ⟨g1,0,none⟩) H.row.length k1,.slice (some ⟨g2,0,none⟩) H.roots.length k2,.slice (some ⟨g3,0,none⟩) H.mourned.length k3,.slice ua un uc,by rw[hpv_cmp],?_,nine_belows HB5.out (by omega) _ _ _ _ _ _ _ _ _⟩
  have hx4:=HX4.out
  have H5:=HO5.out
  have on:∀ {v:Value} {xs:List Int},rows.Own w5 w2.heap.size v xs→∀ {W:World},Ch [w.heap.size+1] w5 W→rows.Own W w.heap.size v xs:=fun {v xs} ho {W} hc=>own_base (row_ch ho hc (fun j hj=>by have:=(blk_lt ho j hj).1;simp;omega)) (by omega)
  exact⟨⟨on H5.1.1 (nine_other _ _ _ _ _ _ _ _ _),on H5.1.2.1 (nine_other _ _ _ _ _ _ _ _ _),on H5.1.2.2.1 (nine_other _ _ _ _ _ _ _ _ _),on H5.1.2.2.2 (nine_other _ _ _ _ _ _ _ _ _)⟩,H5.2⟩
theorem own_outC {w w5 W:World} {U:Nat} {vr vo vm vs:Value} {H:Hp} (h:OwnH w5 U vr vo vm vs H) (hU:w.heap.size+2≤U) (hc:Ch [w.heap.size+1] w5 W):OwnH W w.heap.size vr vo vm vs H:=
 ownH_base (ownH_ch h hc (fun k hk=>by have:=(ownH_lt h k hk).1;simp;omega)) (by omega)
theorem rowI_form {w:World} {base n:Nat} {v:Value} {xs:List Value} (h:w.ownsRow base 2 1 v n xs) (hn:0<n):∃g c,v = .slice (some ⟨g,0,none⟩) n c:=by
 obtain⟨_,⟨_,h0⟩|⟨g,cap,cur,h1,_⟩⟩:=h
 ·omega
 ·exact⟨g,cap,h1⟩
theorem mv_chs {S:List Nat} {w w':World} {mb n:Nat} {D:DataW Value} {ms:List Mv} {wv:Mv→Value} (h:MvMap w mb n D ms wv) (hc:Ch S w w') (hm:mb ∉ S):MvMap w' mb n D ms wv:=by
 obtain⟨ho,h1,h2⟩:=h
 have hlt:=ho.lt
 obtain⟨es,clock,hb,F,hs,hD⟩:=ho
 exact⟨⟨es,clock,(hc.block mb hlt hm).trans hb,F,hs,hD⟩,h1,h2⟩
theorem cmp_ss {V w5 w6:World} {P base g1 g2 g3 g4 vn vc:Nat} {va:Option Addr} {H:Hp} {ps r u l:List Int} (CP:CmP H ps r u l) (d:Dst V P base g1 g2 g3 (.slice (some ⟨g4,0,none⟩) H.seen.length H.seen.length)) (hV:V.heap.size≤w5.heap.size) (hb:base≤w5.heap.size)
    (S5:SS V w5 P base g1 g2 g3 H.row.length H.roots.length H.mourned.length H.row.length H.roots.length H.mourned.length (.slice (some ⟨g4,0,none⟩) H.seen.length H.seen.length) (.slice none 0 0) H [] H.row H.roots H.mourned)
    (O6:rows.Own w6 w5.heap.size (.slice va vn vc) (cmpR H (2*hf H) H.row.length u)) (N6:Nine w6 P 27 (.int .i64 H.half) (.int .i64 H.old) (.slice va vn vc) (.int .i64 H.side) (.int .i64 H.top) (.slice (some ⟨g2,0,none⟩) H.roots.length H.roots.length) (.slice (some ⟨g3,0,none⟩) H.mourned.length H.mourned.length) (.slice (some ⟨g4,0,none⟩) H.seen.length H.seen.length) (.int .i64 H.seed)) (C6:Ch [P,g1] w5 w6) (hp:0<H.row.length) :
    ∃ga,va=some ⟨ga,0,none⟩∧vn=H.row.length∧w5.heap.size≤ga∧Dst w6 P base ga g2 g3 (.slice (some ⟨g4,0,none⟩) H.seen.length H.seen.length)∧SS w6 w6 P base ga g2 g3 vc H.roots.length H.mourned.length H.row.length H.roots.length H.mourned.length (.slice (some ⟨g4,0,none⟩) H.seen.length H.seen.length) (.slice none 0 0) H [] (cmpH H).row H.roots H.mourned:=by
 have er:(cmpH H).row=cmpR H (2*hf H) H.row.length u:=by
  show cmpR H (2*hf H) (2*hf H+od H) ((upW H).getD [])=_
  rw[CP.up,Option.getD_some,CP.len]
 have hl1:=CP.len1
 rw[←er]at O6
 have O6':=O6
 unfold rows.Own at O6'
 rw[hl1]at O6'
 obtain⟨ga,gc,ev⟩:=rowI_form O6' hp
 injection ev with ev1 ev2 ev3
 subst ev1 ev2 ev3
 have hg:=(blk_lt O6 ga (by rw[blk_of];simp))
 have hlt:=d.lt
 have hs6:=C6.size
 have hsr:=d.sr g4 (by rw[blk_of];simp)
 have h4:=(blk_lt S5.seen g4 (by rw[blk_of];simp)).2
 have dro:=d.ro
 have drm:=d.rm
 have dpo:=d.po
 have dpm:=d.pm
 refine⟨ga,rfl,rfl,hg.1,⟨by omega,by omega,d.om,by omega,d.po,d.pm,fun k hk => ?_,by omega⟩,⟨N6,?_,?_,?_,?_,World.ownsRow_nil _ _ _ _,Ch.refl _ _,hl1,rfl,rfl⟩⟩
 ·rw[blk_of]at hk
  simp at hk
  omega
 ·have q:=own_base O6 hb
  unfold rows.Own at q
  rw[hl1]at q
  exact q
 ·exact row_ch S5.roots C6 (fun k hk=>by rw[blk_of]at hk;simp at hk ⊢; omega)
 ·exact row_ch S5.mour C6 (fun k hk=>by rw[blk_of]at hk;simp at hk ⊢; omega)
 ·exact row_ch S5.seen C6 (fun k hk=>by rw[blk_of]at hk;simp at hk ⊢; omega)
theorem cmp_see {w6 w7:World} {P base ga g2 g3 cr co cm:Nat} {vs:Value} {H:Hp} {ps r u l:List Int} (CP:CmP H ps r u l) (N:Nums H) (hI:AllI H.row) (S7:SS w6 w7 P base ga g2 g3 cr co cm H.row.length H.roots.length H.mourned.length vs (.slice none 0 0) H [] (cmpC H).row (cmpC H).roots (cmpC H).mourned) :
    Calls Tryz.prog 35 #[.pointer (some ⟨P,0,none⟩)] w7 fun e w'=>∃u,e = .returned (.tuple #[])∧rows.Own w' w7.heap.size u (seenL (cmpC H))∧Nine w' P 27 (.int .i64 (cmpC H).half) (.int .i64 (cmpC H).old) (.slice (some ⟨ga,0,none⟩) (cmpC H).row.length cr) (.int .i64 (cmpC H).side) (.int .i64 (cmpC H).top) (.slice (some ⟨g2,0,none⟩) (cmpC H).roots.length co) (.slice (some ⟨g3,0,none⟩) (cmpC H).mourned.length cm) u (.int .i64 (cmpC H).seed)∧Ch [P] w7 w':=by
 obtain⟨f1,f2,f3,f4⟩:=CP.fin N
 have hA:AllI (cmpC H).row:=by
  show AllI (ledP (nwW (cmpG H)) (cmpH H).row (covA (cmpH H) (cmpO H)))
  rw[CP.g.1]
  exact CP.all2 N hI _
 have hn:=S7.nine
 obtain⟨sa,sn,sc,rfl⟩:=ints_slice (own_ints S7.seen)
 obtain⟨sa',sc',es,_⟩:=own_ints S7.seen
 injection es with es1 es2 es3
 subst es1 es2 es3
 have hh:=S7.hp
 rw[←S7.lr,←S7.lo,←S7.lm]at hn
 exact seeAnew_any (H:=cmpC H) (a4:=sa) (c4:=sc) hn hh f4 (roomB_of f4 f1) hA
theorem ownH_seen {w w':World} {base P:Nat} {vr vo vm vs u:Value} {H:Hp} {xs:List Int} (h:OwnH w base vr vo vm vs H) (hb:base≤w.heap.size) (hP:P ∉ blk vr∧P ∉ blk vo∧P ∉ blk vm) (O:rows.Own w' w.heap.size u xs) (C:Ch [P] w w'):OwnH w' base vr vo vm u { H with seen:=xs }:=by
 obtain⟨⟨h1,h2,h3,h4⟩,hn⟩:=h
 have l1:=blk_lt h1
 have l2:=blk_lt h2
 have l3:=blk_lt h3
 have lu:=blk_lt O
 refine⟨⟨row_ch h1 C (fun k hk=>by simp;intro e;exact hP.1 (e▸hk)),row_ch h2 C (fun k hk=>by simp;intro e;exact hP.2.1 (e▸hk)),row_ch h3 C (fun k hk=>by simp;intro e;exact hP.2.2 (e▸hk)),own_base O hb⟩,?_⟩
 unfold hblk at hn ⊢
 have nb:(blk u).Nodup:=by unfold blk;cases u.ownBlock<;>simp
 refine List.nodup_append.2 ⟨(List.nodup_append.1 hn).1,nb,fun a ha b hb' e => ?_⟩
 subst e
 have:=(lu a hb').1
 rcases List.mem_append.1 ha with ha|ha
 ·rcases List.mem_append.1 ha with ha|ha
  ·have:=(l1 a ha).2;omega
  ·have:=(l2 a ha).2;omega
 ·have:=(l3 a ha).2;omega
theorem cmp_end {w6 w7 w8:World} {P base ga g2 g3 cr co cm:Nat} {vs u8:Value} {H:Hp} (d:Dst w6 P base ga g2 g3 vs) (S7:SS w6 w7 P base ga g2 g3 cr co cm H.row.length H.roots.length H.mourned.length vs (.slice none 0 0) H [] (cmpC H).row (cmpC H).roots (cmpC H).mourned) (hb:base≤w7.heap.size) (O8:rows.Own w8 w7.heap.size u8 (seenL (cmpC H))) (C8:Ch [P] w7 w8) :
    OwnH w8 base (.slice (some ⟨ga,0,none⟩) (cmpC H).row.length cr) (.slice (some ⟨g2,0,none⟩) (cmpC H).roots.length co) (.slice (some ⟨g3,0,none⟩) (cmpC H).mourned.length cm) u8 (cmpF H):=by
 have h:=ss_own S7 d
 rw[←S7.lr,←S7.lo,←S7.lm]at h
 have:=d.pr
 have:=d.po
 have:=d.pm
 exact ownH_seen h hb (by rw[blk_of,blk_of,blk_of];simp;omega) O8 C8
set_option maxHeartbeats 64000000 in
theorem implCompacted {H:Hp} (hI:HpI H) (w:World) (vr vo vm vs:Value) (h:HpAt w vr vo vm vs H) (hs:hpSize H≤1048576) :
    Calls Tryz.prog 15 #[hpv H vr vo vm vs] w fun e w'=>∃(o' r' m' s':Value),e = .returned (hpv (cmpOk H) o' r' m' s')∧OwnH w' w.heap.size o' r' m' s' (cmpOk H)∧Below w.heap.size w w':=by
 obtain⟨a1,c1,a2,c2,a3,c3,a4,c4,e1,e2,e3,e4⟩:=hpAt_slices h
 subst e1 e2 e3 e4
 have B0:Below w.heap.size w (w.alloc (hpb H (.slice a1 H.row.length c1) (.slice a2 H.roots.length c2) (.slice a3 H.mourned.length c3) (.slice a4 H.seen.length c4))):=(Below.refl _ _).alloc (Nat.le_refl _) _
 have B1:=B0.alloc B0.size (hpb ⟨0,0,[],0,0,[],[],[],0⟩ (.slice none 0 0) (.slice none 0 0) (.slice none 0 0) (.slice none 0 0))
 have HALL:Hid (∃X,X=(w.alloc (hpb H (.slice a1 H.row.length c1) (.slice a2 H.roots.length c2) (.slice a3 H.mourned.length c3) (.slice a4 H.seen.length c4))).alloc (hpb ⟨0,0,[],0,0,[],[],[],0⟩ (.slice none 0 0) (.slice none 0 0) (.slice none 0 0) (.slice none 0 0))∧Nine X w.heap.size 27 (.int .i64 H.half) (.int .i64 H.old) (.slice a1 H.row.length c1) (.int .i64 H.side) (.int .i64 H.top) (.slice a2 H.roots.length c2) (.slice a3 H.mourned.length c3) (.slice a4 H.seen.length c4) (.int .i64 H.seed)∧Nine X (w.heap.size+1) 27 (.int .i64 0) (.int .i64 0) (.slice none 0 0) (.int .i64 0) (.int .i64 0) (.slice none 0 0) (.slice none 0 0) (.slice none 0 0) (.int .i64 0)∧Below w.heap.size w X∧HpAt X (.slice a1 H.row.length c1) (.slice a2 H.roots.length c2) (.slice a3 H.mourned.length c3) (.slice a4 H.seen.length c4) H):=
  ⟨_,rfl,heap_alloc2_old _ _ _,heap_alloc2_new _ _ _,B1,hpAt_below h B1⟩
 have HS:Hid _:=hs
 have HII:Hid _:=hI
 clear B0 B1 hs hI
 cases dr:heapOk H
 ·have e:cmpOk H=hp0:=by unfold cmpOk;rw[if_neg (by rw[dr];decide)]
  rw[e]
  have HDR:Hid _:=dr
  clear h dr e
  go_enter Tryz.func15,Tryz.ntmps15
  go_upto_region 1 with fail
  obtain⟨X,hX,T0,T1,BX,AX⟩:=HALL.out
  rw[←hX]
  clear hX HALL
  obtain⟨⟨z0,z1,z2,z3,z4⟩,⟨z5,z6,z7,z8⟩,_⟩:=nine_cells T0
  have OX:=opened_any AX HS.out HII.out
  unfold OpenR at OX
  have R0:=OX.mono (fun e w' (g:_∧_∧_)=>(⟨g.1 HDR.out,g.2.2⟩:e = .returned (.tuple #[hov0,.bool false])∧Below _ _ w'))
  have HT1:Hid _:=T1
  have HBX:Hid _:=BX
  clear OX T0 T1 BX AX
  go_upto_region 2 with (go_at_call 28;refine R0.mono ?_;clear R0 z0 z1 z2 z3 z4 z5 z6 z7 z8;rintro e w1 ⟨rfl,b1⟩;have HB1:Hid _:=b1;clear b1)
  have HB2:Hid _:=HB1.out.alloc HB1.out.size (hob hz s0 s0 s0 s0 0 s0)
  generalize w1.alloc (hob hz s0 s0 s0 s0 0 s0)=Y at *
  have HBY:Hid _:=HBX.out.trans (HB2.out.mono HBX.out.size)
  have HN1:Hid _:=nine_below HT1.out HB2.out
  obtain⟨⟨y0,y1,y2,y3,y4⟩,⟨y5,y6,y7,y8⟩,yf⟩:=nine_cells HN1.out
  have f0:=yf 0
  have f1:=yf 1
  have f2:=yf 2
  have f3:=yf 3
  have f4:=yf 4
  have f5:=yf 5
  have f6:=yf 6
  have f7:=yf 7
  have f8:=yf 8
  clear yf HB2 HT1 HB1
  go_wp2_with fail
  exact bodyPost_ret (res_heap rfl rfl (nine_sets HN1.out _ _ _ _ _ _ _ _ _)) rfl ⟨_,_,_,_,rfl,own0 _ _,nine_belows HBY.out (Nat.le_succ _) _ _ _ _ _ _ _ _ _⟩
 ·obtain⟨ps,FP⟩:=folP_of (a:=a1) dr
  rw[cmpOk_is dr FP.rt]
  obtain⟨SA,hSA⟩:∃SA,cmpA H ps=SA:=⟨_,rfl⟩
  rw[hSA]
  have HSA:Hid _:=hSA
  clear hSA
  have hrt:=(ok_right dr).1
  rw[←openB_is a1 H]at hrt
  obtain⟨hn,hro,_⟩:=openB_parts hrt
  have N:=(places_facts FP.rt.some').1
  have hrl:=FP.rt.len
  have hpos:0<H.row.length:=by have:=N.len;have:=N.half1;omega
  obtain⟨b,off,ea,hbw0,_⟩:=ints_cell h.1 hpos
  subst ea
  have hln:(objsP (some ⟨b,off,none⟩) H).length=(objL H ps).length:=by
   have hpl:=objs_places (a:=some ⟨b,off,none⟩) dr
   rw[FP.rt.some',Option.getD_some]at hpl
   rw[←hpl]
   unfold plL
   rw[List.length_map]
  have HLN:Hid _:=hln
  have HRO:Hid (∀V a5 c5,HpAt V (.slice (some ⟨b,off,none⟩) H.row.length c1) (.slice a2 H.roots.length c2) (.slice a3 H.mourned.length c3) (.slice a4 H.seen.length c4) H→PdsAt V (.slice a5 (objsP (some ⟨b,off,none⟩) H).length c5) (objsP (some ⟨b,off,none⟩) H)→RoomsAt V (.slice a5 (objsP (some ⟨b,off,none⟩) H).length c5) (objsP (some ⟨b,off,none⟩) H) (slP H.row)):=fun V a5 c5 hV hp=>roomsAt_of hV.1 hn hro HII.out.2.1 hp
  have HST:Hid (∀V a5 c5,HpAt V (.slice (some ⟨b,off,none⟩) H.row.length c1) (.slice a2 H.roots.length c2) (.slice a3 H.mourned.length c3) (.slice a4 H.seen.length c4) H→RoomsAt V (.slice a5 (objsP (some ⟨b,off,none⟩) H).length c5) (objsP (some ⟨b,off,none⟩) H) (slP H.row)→Calls Tryz.prog 30 #[hov H (.slice (some ⟨b,off,none⟩) H.row.length c1) (.slice a2 H.roots.length c2) (.slice a3 H.mourned.length c3) (.slice a4 H.seen.length c4) (2*H.half) (.slice a5 (objsP (some ⟨b,off,none⟩) H).length c5)] V fun e w'=>e = .returned (.bool (isStr H ps))∧Below V.heap.size V w'):=fun V a5 c5 hV hr=>straight_of dr hro FP hV hr HII.out _ hln
  obtain⟨r,u,l,CPM⟩:=cmp_parts FP.rt
  have HNU:Hid _:=noteUp_is (a:=some ⟨b,off,none⟩) dr FP.rt hro CPM
  have HMU:Hid (∀V a5 c5,PdsAt V (.slice a5 (objsP (some ⟨b,off,none⟩) H).length c5) (objsP (some ⟨b,off,none⟩) H)→Calls Tryz.prog 32 #[hov H (.slice (some ⟨b,off,none⟩) H.row.length c1) (.slice a2 H.roots.length c2) (.slice a3 H.mourned.length c3) (.slice a4 H.seen.length c4) (2*H.half) (.slice a5 (objsP (some ⟨b,off,none⟩) H).length c5)] V fun e w'=>MvA V (mvL H (2*hf H) u) (wvM b off) e w'):=fun V a5 c5 hp=>movesUp_any dr hro FP.rt CPM hp
  have HSL:Hid _:=objs_slices (some ⟨b,off,none⟩) H
  have HRT:Hid _:=FP.rt
  have HCM:Hid _:=CPM
  have HNM:Hid _:=N
  have HRL:Hid _:=hrl
  have hbw:b<w.heap.size:=hbw0
  have hgr:0<H.row.length:=hpos
  have HNB:Hid (0≤H.half∧H.half≤200∧0≤H.old∧H.old≤400):=by have h1:=N.half1;have h2:=N.half;have h3:=N.old1;have h4:=N.old;exact⟨by omega,by omega,by omega,by omega⟩
  have HDR:Hid _:=dr
  have h1000:(objsP (some ⟨b,off,none⟩) H).length≤1000:=by
   rw[hln]
   exact Nat.le_trans (objL_len _ _) (by have:=(places_plc FP.rt.some').2;omega)
  have hrows:=hrl
  clear hbw0 h dr hrt hn hro N hpos hln hrl FP CPM hrows
  go_enter Tryz.func15,Tryz.ntmps15
  go_upto_region 1 with fail
  obtain⟨X,hX,T0,T1,BX,AX⟩:=HALL.out
  rw[←hX]
  clear hX HALL
  obtain⟨⟨z0,z1,z2,z3,z4⟩,⟨z5,z6,z7,z8⟩,_⟩:=nine_cells T0
  have OX:=opened_any AX HS.out HII.out
  unfold OpenR at OX
  have R0:=OX.mono (fun e w' (g:_∧_∧_)=>(⟨g.2.1 HDR.out,g.2.2⟩:(∃a5 c5,e = .returned (.tuple #[hov H (.slice (some ⟨b,off,none⟩) H.row.length c1) (.slice a2 H.roots.length c2) (.slice a3 H.mourned.length c3) (.slice a4 H.seen.length c4) (2*H.half) (.slice a5 (objsP (some ⟨b,off,none⟩) H).length c5),.bool true])∧OwnP w' _ (.slice a5 (objsP (some ⟨b,off,none⟩) H).length c5) (objsP (some ⟨b,off,none⟩) H))∧Below _ _ w'))
  have HT0:Hid _:=T0
  have HT1:Hid _:=T1
  have HBX:Hid _:=BX
  have HAX:Hid _:=AX
  clear OX T0 T1 BX AX
  go_upto_region 2 with (go_at_call 28;refine R0.mono ?_;clear R0 z0 z1 z2 z3 z4 z5 z6 z7 z8;rintro e w1 ⟨⟨a5,c5,rfl,O1⟩,b1⟩;have HB1:Hid _:=b1;have HO1:Hid _:=ownP_at O1;clear b1 O1)
  have B2:Below w1.heap.size w1 (w1.alloc (hob H (.slice (some ⟨b,off,none⟩) H.row.length c1) (.slice a2 H.roots.length c2) (.slice a3 H.mourned.length c3) (.slice a4 H.seen.length c4) (2*H.half) (.slice a5 (objsP (some ⟨b,off,none⟩) H).length c5))):=(Below.refl _ _).alloc (Nat.le_refl _) _
  have HQU:Hid _:=heap_alloc_new w1 (hob H (.slice (some ⟨b,off,none⟩) H.row.length c1) (.slice a2 H.roots.length c2) (.slice a3 H.mourned.length c3) (.slice a4 H.seen.length c4) (2*H.half) (.slice a5 (objsP (some ⟨b,off,none⟩) H).length c5))
  have HXU:Hid _:=HB1.out.trans (B2.mono HB1.out.size)
  have HPU:Hid _:=pdsAt_below HO1.out B2
  have hw1:=HB1.out.size
  clear B2 HO1 HB1
  generalize w1.alloc (hob H (.slice (some ⟨b,off,none⟩) H.row.length c1) (.slice a2 H.roots.length c2) (.slice a3 H.mourned.length c3) (.slice a4 H.seen.length c4) (2*H.half) (.slice a5 (objsP (some ⟨b,off,none⟩) H).length c5))=U at *
  have HHU:Hid _:=hpAt_below HAX.out HXU.out
  have HRU:Hid _:=HRO.out U a5 c5 HHU.out HPU.out
  have HBU:Hid _:=HBX.out.trans (HXU.out.mono HBX.out.size)
  have CP:=copiedHeap_any HHU.out HS.out
  obtain⟨⟨z0,z1,z2,z3,z4⟩,⟨z5,z6,z7,z8⟩,_⟩:=nine_cells (nine_below HT0.out HXU.out)
  have hXs:=lt_of_block HT1.out
  have hU1:=lt_of_block HQU.out
  clear HRO HAX
  generalize hDS:(objsP (some ⟨b,off,none⟩) H)=ds at *
  clear hDS
  go_upto_region 5 with (go_at_call 29;refine CP.mono ?_;clear CP z0 z1 z2 z3 z4 z5 z6 z7 z8;rintro e w2 ⟨g1,g2,g3,g4,rfl,O2,b2⟩;have HO2:Hid _:=O2;have HB2:Hid _:=b2;clear O2 b2)
  have SN:=ss_new HO2.out
  have BV:Below w2.heap.size w2 (w2.alloc (hpb H (.slice (some ⟨g1,0,none⟩) H.row.length H.row.length) (.slice (some ⟨g2,0,none⟩) H.roots.length H.roots.length) (.slice (some ⟨g3,0,none⟩) H.mourned.length H.mourned.length) (.slice (some ⟨g4,0,none⟩) H.seen.length H.seen.length))):=(Below.refl _ _).alloc (Nat.le_refl _) _
  have HUV:Hid _:=HB2.out.trans (BV.mono HB2.out.size)
  have HGL:Hid _:=ownH_lt HO2.out
  have q1:=(HGL.out g1 (in_hblk.1 _ (by rw[blk_of];simp))).1
  have q2:=(HGL.out g2 (in_hblk.2.1 _ (by rw[blk_of];simp))).1
  have q3:=(HGL.out g3 (in_hblk.2.2.1 _ (by rw[blk_of];simp))).1
  have hU2:=HB2.out.size
  have HDS:Hid _:=SN.1
  have HSN:Hid _:=SN.2
  clear SN BV HO2 HGL HB2
  generalize w2.alloc (hpb H (.slice (some ⟨g1,0,none⟩) H.row.length H.row.length) (.slice (some ⟨g2,0,none⟩) H.roots.length H.roots.length) (.slice (some ⟨g3,0,none⟩) H.mourned.length H.mourned.length) (.slice (some ⟨g4,0,none⟩) H.seen.length H.seen.length))=V at *
  have hPd:=HDS.out.lt
  have hUV:=HUV.out.size
  have hXU:=HXU.out.size
  have hwX:=HBX.out.size
  have HZO:Hid _:=ss_own HSN.out HDS.out
  have SI:=HST.out V a5 c5 (hpAt_below HHU.out HUV.out) (HRU.out.below HUV.out)
  obtain⟨⟨m0,m1,m2,m3,m4,m5,m6,m7,m8,m9,m10⟩,_⟩:=hob_cells ((HUV.out.block _ hU1).trans HQU.out)
  have HNC:Hid (∀w4,Below V.heap.size V w4→Calls Tryz.prog 31 #[hov H (.slice (some ⟨b,off,none⟩) H.row.length c1) (.slice a2 H.roots.length c2) (.slice a3 H.mourned.length c3) (.slice a4 H.seen.length c4) (2*H.half) (.slice a5 ds.length c5)] w4 fun e w'=>e = .returned (.bool (upNote H u))∧Below w4.heap.size w4 w'):=fun w4 b4=>by
   have q:=hasNoteUp_any (H:=H) (a1:=some ⟨b,off,none⟩) (a2:=a2) (a3:=a3) (a4:=a4) (n1:=H.row.length) (c1:=c1) (n2:=H.roots.length) (c2:=c2) (n3:=H.mourned.length) (c3:=c3) (n4:=H.seen.length) (c4:=c4) (up:=2*H.half) (pdsAt_below (pdsAt_below HPU.out HUV.out) b4) HSL.out (Nat.le_trans h1000 (by decide))
   rw[HNU.out]at q
   exact q
  have HUPU:Hid _:=HCM.out.up
  cases hst:isStr H ps
  case false=>
   have eA:H=SA:=(HSA.out.symm.trans (by unfold cmpA;rw[hst];rfl)).symm
   subst eA
   rw[hst]at SI
   clear hst
   go_upto_region 6 with (go_at_call 30;refine SI.mono ?_;clear SI m0 m1 m2 m3 m4 m5 m6 m7 m8 m9 m10;rintro e w4 ⟨rfl,b4⟩;have HB4:Hid _:=b4;clear b4)
   have HN4:Hid _:=nine_below HSN.out.nine HB4.out
   have HO4:Hid _:=ownH_below HZO.out HB4.out
   have HN1:Hid _:=nine_below HT1.out (HXU.out.trans ((HUV.out.trans (HB4.out.mono HUV.out.size)).mono HXU.out.size))
   have HB5:Hid _:=HBU.out.trans ((HUV.out.trans (HB4.out.mono HUV.out.size)).mono HBU.out.size)
   obtain⟨⟨z0,z1,z2,z3,z4⟩,⟨z5,z6,z7,z8⟩,_⟩:=nine_cells HN4.out
   obtain⟨⟨y0,y1,y2,y3,y4⟩,⟨y5,y6,y7,y8⟩,yf⟩:=nine_cells HN1.out
   have f0:=yf 0
   have f1:=yf 1
   have f2:=yf 2
   have f3:=yf 3
   have f4:=yf 4
   have f5:=yf 5
   have f6:=yf 6
   have f7:=yf 7
   have f8:=yf 8
   clear yf
   go_wp2_with fail
   exact bodyPost_ret (res_heap rfl rfl (nine_sets HN1.out _ _ _ _ _ _ _ _ _)) rfl ⟨_,_,_,_,rfl,own_outC HO4.out (by omega) (nine_other _ _ _ _ _ _ _ _ _),nine_belows HB5.out (Nat.le_succ _) _ _ _ _ _ _ _ _ _⟩
  case true=>
   rw[hst]at SI
   have HSTT:Hid _:=hst
   clear hst
   cases hnu:upNote H u
   case true=>
    have eA:H=SA:=(HSA.out.symm.trans (by unfold cmpA;rw[HSTT.out,HUPU.out,Option.getD_some,hnu];rfl)).symm
    subst eA
    rw[hnu]at HNC
    clear hnu
    go_upto_region 6 with (first
     |(go_at_call 30;refine SI.mono ?_;clear SI m0 m1 m2 m3 m4 m5 m6 m7 m8 m9 m10;rintro e w4 ⟨rfl,b4⟩;have HB4:Hid _:=b4;have CI:=HNC.out w4 b4;obtain⟨⟨m0,m1,m2,m3,m4,m5,m6,m7,m8,m9,m10⟩,-⟩:=hob_cells ((b4.block _ (Nat.lt_of_lt_of_le hU1 HUV.out.size)).trans ((HUV.out.block _ hU1).trans HQU.out));clear b4)
     |(go_at_call 31;refine CI.mono ?_;clear CI m0 m1 m2 m3 m4 m5 m6 m7 m8 m9 m10;rintro e w5 ⟨rfl,b5⟩;have HB4':Hid _:=HB4.out.trans (b5.mono HB4.out.size);clear b5 HB4;have HB4:Hid _:=HB4'.out;clear HB4'))
    have HN4:Hid _:=nine_below HSN.out.nine HB4.out
    have HO4:Hid _:=ownH_below HZO.out HB4.out
    have HN1:Hid _:=nine_below HT1.out (HXU.out.trans ((HUV.out.trans (HB4.out.mono HUV.out.size)).mono HXU.out.size))
    have HB5:Hid _:=HBU.out.trans ((HUV.out.trans (HB4.out.mono HUV.out.size)).mono HBU.out.size)
    obtain⟨⟨z0,z1,z2,z3,z4⟩,⟨z5,z6,z7,z8⟩,_⟩:=nine_cells HN4.out
    obtain⟨⟨y0,y1,y2,y3,y4⟩,⟨y5,y6,y7,y8⟩,yf⟩:=nine_cells HN1.out
    have f0:=yf 0
    have f1:=yf 1
    have f2:=yf 2
    have f3:=yf 3
    have f4:=yf 4
    have f5:=yf 5
    have f6:=yf 6
    have f7:=yf 7
    have f8:=yf 8
    clear yf
    go_wp2_with fail
    exact bodyPost_ret (res_heap rfl rfl (nine_sets HN1.out _ _ _ _ _ _ _ _ _)) rfl ⟨_,_,_,_,rfl,own_outC HO4.out (by omega) (nine_other _ _ _ _ _ _ _ _ _),nine_belows HB5.out (Nat.le_succ _) _ _ _ _ _ _ _ _ _⟩
   case false=>
    have eA:cmpF H=SA:=(HSA.out.symm.trans (by unfold cmpA;rw[HSTT.out,HUPU.out,Option.getD_some,hnu];rfl)).symm
    have HEA:Hid _:=eA
    rw[hnu]at HNC
    clear hnu eA
    go_upto_region 7 with (first
     |(go_at_call 30;refine SI.mono ?_;clear SI m0 m1 m2 m3 m4 m5 m6 m7 m8 m9 m10;rintro e w4 ⟨rfl,b4⟩;have HB4:Hid _:=b4;have CI:=HNC.out w4 b4;obtain⟨⟨m0,m1,m2,m3,m4,m5,m6,m7,m8,m9,m10⟩,-⟩:=hob_cells ((b4.block _ (Nat.lt_of_lt_of_le hU1 HUV.out.size)).trans ((HUV.out.block _ hU1).trans HQU.out));clear b4)
     |(go_at_call 31;refine CI.mono ?_;clear CI m0 m1 m2 m3 m4 m5 m6 m7 m8 m9 m10;rintro e K ⟨rfl,b5⟩;have HZK:Hid _:=HB4.out.trans (b5.mono HB4.out.size);clear b5 HB4))
    have HSK:Hid _:=HSN.out.below HZK.out
    have HHK:Hid _:=(HZK.out.block _ (Nat.lt_of_lt_of_le hU1 HUV.out.size)).trans ((HUV.out.block _ hU1).trans HQU.out)
    have HUK:Hid (Below U.heap.size U K):=HUV.out.trans (HZK.out.mono HUV.out.size)
    have hVK:=HZK.out.size
    have MU:=HMU.out K a5 c5 (pdsAt_below HPU.out HUK.out)
    unfold MvA at MU
    obtain⟨⟨m0,m1,m2,m3,m4,m5,m6,m7,m8,m9,m10⟩,-⟩:=hob_cells HHK.out
    clear HNC HST HSN HZO HMU HHK HQU
    go_upto_region 8 with (go_at_call 32;refine MU.mono ?_;clear MU m0 m1 m2 m3 m4 m5 m6 m7 m8 m9 m10;rintro e w5 ⟨mb,mn,D,rfl,hmb,M5,hn5,b5⟩;have HM5:Hid _:=M5;have HB5:Hid _:=b5;have HMN:Hid _:=hn5;clear M5 b5 hn5)
    have HS5:Hid _:=HSK.out.below HB5.out
    have hK5:=HB5.out.size
    have HU5:Hid (Below U.heap.size U w5):=HUK.out.trans (HB5.out.mono HUK.out.size)
    have HNB5:Hid _:=HBU.out.trans (HU5.out.mono HBU.out.size)
    have HX5:Hid _:=HXU.out.trans (HU5.out.mono HXU.out.size)
    have PT:=pushTog_any (c1:=c1) (b:=b) (off:=off) HDR.out HII.out.2.1 HRT.out HCM.out HS5.out.nine (own_full HS5.out.row rfl) (intsAt_below HHU.out.1 HU5.out) HM5.out HDS.out.pr (by omega) (by omega)
    unfold PuA at PT
    clear HSK HUK
    go_upto_region 9 with (go_at_call 33;refine PT.mono ?_;clear PT;rintro e w6 ⟨va,vn,vc,rfl,O6,N6,C6⟩;have HO6:Hid _:=O6;have HN6:Hid _:=N6;have HC6:Hid _:=C6;clear O6 N6 C6)
    obtain⟨ga,e1,e2,hga,D6,S6⟩:=cmp_ss HCM.out HDS.out (by omega) (by omega) HS5.out HO6.out HN6.out HC6.out hgr
    subst e1 e2
    have LT:=leadTo_any HII.out HRT.out HCM.out D6 S6 (mv_chs HM5.out HC6.out (by simp;omega)) HMN.out
    have HD6:Hid _:=D6
    have hw6:=HC6.out.size
    clear D6 S6
    go_upto_region 10 with (go_at_call 34;refine LT.mono ?_;clear LT;rintro e w7 ⟨rfl,S7⟩;have HS7:Hid _:=S7;clear S7)
    have SE:=cmp_see HCM.out HNM.out HII.out.2.1 HS7.out
    have hw7:=HS7.out.ch.size
    go_upto_region 11 with (go_at_call 35;refine SE.mono ?_;clear SE;rintro e w8 ⟨u8,rfl,O8,N8,C8⟩;have HO8:Hid _:=O8;have HN8:Hid _:=N8;have HC8:Hid _:=C8;obtain⟨ua,un,uc,rfl⟩:=ints_slice (own_ints O8);clear O8 N8 C8)
    have HOF:Hid _:=cmp_end HD6.out HS7.out (by omega) HO8.out HC8.out
    have HNA:Hid _:=nine_ch (nine_below HT1.out HX5.out) HC6.out (by simp;omega)
    have HNB':Hid _:=nine_ch HNA.out HS7.out.ch (by simp;omega)
    have HNC:Hid _:=nine_ch HNB'.out HC8.out (by simp;omega)
    have hNs:=HNB5.out.size
    have HB8:Hid _:=HNB5.out.trans (((below_ch HC6.out HNB5.out.size (fun k hk=>by simp at hk;omega)).trans (below_ch HS7.out.ch (Nat.le_trans HNB5.out.size HC6.out.size) (fun k hk=>by simp at hk;omega))).trans (below_ch HC8.out (Nat.le_trans (Nat.le_trans HNB5.out.size HC6.out.size) HS7.out.ch.size) (fun k hk=>by simp at hk;omega)))
    obtain⟨⟨z0,z1,z2,z3,z4⟩,⟨z5,z6,z7,z8⟩,-⟩:=nine_cells HN8.out
    obtain⟨⟨y0,y1,y2,y3,y4⟩,⟨y5,y6,y7,y8⟩,yf⟩:=nine_cells HNC.out
    have f0:=yf 0
    have f1:=yf 1
    have f2:=yf 2
    have f3:=yf 3
    have f4:=yf 4
    have f5:=yf 5
    have f6:=yf 6
    have f7:=yf 7
    have f8:=yf 8
    clear yf
    have HSE:Hid _:=HEA.out
    go_wp2_with fail
    exact bodyPost_ret (res_heap rfl rfl (nine_sets HNC.out _ _ _ _ _ _ _ _ _)) rfl ⟨_,_,_,_,by rw[←HSE.out];rfl,by rw[←HSE.out];exact own_outC HOF.out (by omega) (nine_other _ _ _ _ _ _ _ _ _),nine_belows HB8.out (Nat.le_succ _) _ _ _ _ _ _ _ _ _⟩
end Go.Proofs.YtemlagfaaibenaaGreat.hp
