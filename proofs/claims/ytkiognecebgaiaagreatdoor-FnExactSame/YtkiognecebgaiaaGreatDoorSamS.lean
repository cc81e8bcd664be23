/-
  Chapter 19 as the specification has it: Same.
  Made from the template SamS (mksams.py, SamS.head).
-/
import Derived.Test.YtkiognecebgaiaaGreatDoorM18
import Derived.Test.YtkiognecebgaiaaGreatDoorCanS7
import Derived.Test.YtkiognecebgaiaaGreatDoorM16
import Derived.Test.YtkiognecebgaiaaGreatDoorM2
namespace Go.Proofs.YtkiognecebgaiaaGreatDoor.hp
open Go.RowKit rows heads words walks region
set_option maxRecDepth 100000
set_option linter.unusedVariables false
set_option linter.unusedSimpArgs false
theorem hp_nine {w:World} {b:Nat} {H:Hp} {vr vo vm vs:Value} (h:w.heap[b]? = some (hpb H vr vo vm vs)):Nine w b 58 (.int .i64 H.half) (.int .i64 H.old) vr (.int .i64 H.side) (.int .i64 H.top) vo vm vs (.int .i64 H.seed):=h
theorem bs_dec (a b:List UInt8):decide (gr.bs a=gr.bs b)=(a==b):=by
 have h:(gr.bs a=gr.bs b)↔a=b:=⟨fun e=>by
  have:(gr.bs a).data=(gr.bs b).data:=by rw[e]
  simpa using this,fun e=>by rw[e]⟩
 by_cases e:a=b
 ·rw[decide_eq_true (h.2 e)];simp[e]
 ·rw[decide_eq_false (fun x=>e (h.1 x))];simp[e]
def dSm4 (k:Nat):Nat:=match k with
 |0=>23
 |1=>24
 |2=>25
 |3=>26
 |4=>27
 |5=>28
 |6=>29
 |7=>30
 |8=>31
 |9=>32
 |10=>33
 |11=>34
 |12=>4
 |_=>2000
theorem dSm4_inj:∀k,k<13→∀j,j<13→dSm4 j=dSm4 k→j=k:=by decide
def DSm4 (s:Nat):Bool:=s==23 || s==24 || s==25 || s==26 || s==27 || s==28 || s==29 || s==30 || s==31 || s==32 || s==33 || s==34 || s==4
def FSm4 (OV HV GV:Value) (n:Nat) (sn ss:Int) (S:gr.Gr) (TS TG:List UInt8) (k:Nat) (t:Value) (W:World):Prop:=
 match k with
 |0=>t=OV
 |1=>t = .int .i64 (n:Int)
 |2=>t = .bool true
 |3=>t = .bool true
 |4=>t=HV
 |5=>t=OV
 |6=>∃o r m ms,t=gr.gv o r m sn ss∧gr.GraphAt W o r m ms S
 |7=>t = .string (gr.bs TS)
 |8=>t=GV
 |9=>t = .string (gr.bs TG)
 |10=>t = .bool (TS==TG)
 |11=>t = .bool (TS==TG)
 |12=>t = .bool (TS==TG)
 |_=>False
set_option maxHeartbeats 32000000 in
theorem sSame_any {w:World} {vr vo vm vs o r m:Value} {H:Hp} {ms:List gr.MO} {G:gr.Gr} (h:HpAt w vr vo vm vs H) (hs:hpSize H≤1048576) (hg:gr.GraphAt w o r m ms G) (hgs:gr.gSize ms G≤1048576) :
    Calls Tryz.prog 24 #[hpv H vr vo vm vs,gr.gv o r m G.next G.seed] w fun e w'=>e = .returned (.bool (samB H G))∧Below w.heap.size w w':=by
 obtain⟨a1,c1,a2,c2,a3,c3,a4,c4,e1,e2,e3,e4⟩:=hpAt_slices h
 subst e1 e2 e3 e4
 obtain⟨b1,n1,d1,b2,n2,d2,b3,n3,d3,e1,e2,e3⟩:=gr.graphAt_slices hg
 subst e1 e2 e3
 have B1:Below w.heap.size w (w.alloc (hpb H (.slice a1 H.row.length c1) (.slice a2 H.roots.length c2) (.slice a3 H.mourned.length c3) (.slice a4 H.seen.length c4))):=(Below.refl _ _).alloc (Nat.le_refl _) _
 have T1:=nine_new w H (.slice a1 H.row.length c1) (.slice a2 H.roots.length c2) (.slice a3 H.mourned.length c3) (.slice a4 H.seen.length c4)
 have s1:(w.alloc (hpb H (.slice a1 H.row.length c1) (.slice a2 H.roots.length c2) (.slice a3 H.mourned.length c3) (.slice a4 H.seen.length c4))).heap.size=w.heap.size+1:=by simp
 have HALL:Hid (∃X,X=(w.alloc (hpb H (.slice a1 H.row.length c1) (.slice a2 H.roots.length c2) (.slice a3 H.mourned.length c3) (.slice a4 H.seen.length c4))).alloc (gr.gb (.slice b1 n1 d1) (.slice b2 n2 d2) (.slice b3 n3 d3) G.next G.seed)∧Below w.heap.size w X∧X.heap[w.heap.size]? = some (hpb H (.slice a1 H.row.length c1) (.slice a2 H.roots.length c2) (.slice a3 H.mourned.length c3) (.slice a4 H.seen.length c4))∧gr.Five X (w.heap.size+1) 27 (.slice b1 n1 d1) (.slice b2 n2 d2) (.slice b3 n3 d3) (.int .i64 G.next) (.int .i64 G.seed)):=by
  refine⟨_,rfl,B1.alloc B1.size _,?_,?_⟩
  ·rw[heap_alloc_old _ _ (by rw[s1];omega)]
   exact heap_alloc_new w _
  ·have:=heap_alloc_new (w.alloc (hpb H (.slice a1 H.row.length c1) (.slice a2 H.roots.length c2) (.slice a3 H.mourned.length c3) (.slice a4 H.seen.length c4))) (gr.gb (.slice b1 n1 d1) (.slice b2 n2 d2) (.slice b3 n3 d3) G.next G.seed)
   rw[s1]at this
   exact this
 obtain⟨R,hR⟩:∃R,samB H G=R:=⟨_,rfl⟩
 rw[hR]
 have HR:Hid _:=hR
 have HH:Hid _:=h
 have HG:Hid _:=hg
 have HS:Hid _:=hs
 have HGS:Hid _:=hgs
 clear hR h hg hs hgs B1 T1 s1
 go_enter Tryz.func24,Tryz.ntmps24
 go_upto_region 1 with fail
 obtain⟨X,hX,BX,Q2,F3⟩:=HALL.out
 rw[←hX]
 clear hX HALL
 obtain⟨⟨z0,z1,z2,z3,z4⟩,⟨z5,z6,z7,z8⟩,_⟩:=nine_cells (hp_nine Q2)
 obtain⟨g0,g1,g2,g3,g4,_⟩:=gr.five_cells F3
 have HBX:Hid _:=BX
 have HQ2:Hid _:=Q2
 have HF3:Hid _:=F3
 have HK:=sHeapOk_any (hpAt_below HH.out BX) HS.out
 clear BX Q2 F3
 cases dr:heapOk H
 ·rw[dr]at HK
  have HE:Hid (R=false):=by show _=_;rw[←HR.out];unfold samB;rw[dr];rfl
  clear dr
  go_wp2_with (go_at_call 62;refine HK.mono ?_;clear HK z0 z1 z2 z3 z4 z5 z6 z7 z8 g0 g1 g2 g3 g4;rintro e w2 ⟨rfl,b2⟩;have HB2:Hid _:=HBX.out.trans (b2.mono HBX.out.size);clear b2)
  go_ret
  exact⟨by rw[HE.out];rfl,HB2.out⟩
 ·rw[dr]at HK
  have HDR:Hid _:=dr
  have HGK:Hid (∀V,Below w.heap.size w V→Calls Tryz.prog 19 #[gr.gv (.slice b1 n1 d1) (.slice b2 n2 d2) (.slice b3 n3 d3) G.next G.seed] V fun e w'=>e = .returned (.bool (gr.gOk G))∧Below V.heap.size V w'):=fun V hV=>gr.sGraphOk_any (gr.graphAt_below HG.out hV) HGS.out
  clear dr
  cases dg:gr.gOk G
  ·rw[dg]at HGK
   have HE:Hid (R=false):=by show _=_;rw[←HR.out];unfold samB;rw[dg];simp
   clear dg
   go_wp2_with (first
    |(go_at_call 62;refine HK.mono ?_;clear HK z0 z1 z2 z3 z4 z5 z6 z7 z8 g0 g1 g2 g3 g4;rintro e w2 ⟨rfl,b2⟩;have HB2:Hid _:=HBX.out.trans (b2.mono HBX.out.size);have GK:=HGK.out w2 HB2.out;clear HGK;obtain⟨⟨y0,y1,y2,y3,y4⟩,⟨y5,y6,y7,y8⟩,_⟩:=nine_cells (nine_below (hp_nine HQ2.out) b2);obtain⟨g0,g1,g2,g3,g4,_⟩:=gr.five_cells (gr.five_below HF3.out b2);clear b2)
    |(go_at_call 19;refine GK.mono ?_;clear GK y0 y1 y2 y3 y4 y5 y6 y7 y8 g0 g1 g2 g3 g4;rintro e w3 ⟨rfl,b3⟩;have HB3:Hid _:=HB2.out.trans (b3.mono HB2.out.size);clear b3))
   go_ret
   exact⟨by rw[HE.out];rfl,HB3.out⟩
  ·rw[dg]at HGK
   have HDG:Hid _:=dg
   clear dg
   by_cases hse:H.seed=G.seed
   ·have hse':(H.seed==G.seed)=true:=by simpa using hse
    have hse2:(H.seed != G.seed)=false:=by simp[hse]
    have HSE:Hid _:=hse
    clear hse
    go_upto_region 3 with (first
     |(go_at_call 62;refine HK.mono ?_;clear HK z0 z1 z2 z3 z4 z5 z6 z7 z8 g0 g1 g2 g3 g4;rintro e w2 ⟨rfl,b2⟩;have HB2:Hid _:=HBX.out.trans (b2.mono HBX.out.size);have GK:=HGK.out w2 HB2.out;clear HGK;have HQ2':Hid _:=nine_below (hp_nine HQ2.out) b2;have HF3':Hid _:=gr.five_below HF3.out b2;obtain⟨⟨y0,y1,y2,y3,y4⟩,⟨y5,y6,y7,y8⟩,_⟩:=nine_cells HQ2'.out;obtain⟨g0,g1,g2,g3,g4,_⟩:=gr.five_cells HF3'.out;clear b2)
     |(go_at_call 19;refine GK.mono ?_;clear GK y0 y1 y2 y3 y4 y5 y6 y7 y8 g0 g1 g2 g3 g4;rintro e w3 ⟨rfl,b3⟩;have HB3:Hid _:=HB2.out.trans (b3.mono HB2.out.size);have HQ3:Hid _:=nine_below HQ2'.out b3;have HF4:Hid _:=gr.five_below HF3'.out b3;obtain⟨⟨y0,y1,y2,y3,y4⟩,⟨y5,y6,y7,y8⟩,_⟩:=nine_cells HQ3.out;obtain⟨g0,g1,g2,g3,g4,_⟩:=gr.five_cells HF4.out;clear b3))
    obtain⟨ps,RT⟩:=rt_of (ok_right HDR.out).1
    have OR:=l10Order_any (hpAt_below HH.out HB3.out) RT
    have OG:=RT.ordH_og
    have hle:=OG.len RT
    have HRT:Hid _:=RT
    clear hse' hse2 OG RT g0 g1 g2 g3 g4
    go_upto_region 4 with (go_at_call 63;refine OR.mono ?_;clear OR y0 y1 y2 y3 y4 y5 y6 y7 y8;rintro e w5 ⟨v5,rfl,o5,b5⟩;have HO5:Hid _:=o5;have HB5:Hid _:=HB3.out.trans (b5.mono HB3.out.size);have HQ5:Hid _:=nine_below HQ3.out b5;have HF5:Hid _:=gr.five_below HF4.out b5;clear o5 b5)
    obtain⟨oa,oc,eo,_⟩:=own_ints HO5.out
    subst eo
    by_cases h200:(ordH H).length≤200
    ·have HE:Hid (R=(gr.canT (grS H (ordH H))==gr.canT G)):=by show _=_;rw[←HR.out,←bs_dec];unfold samB;rw[HDR.out,HDG.out,decide_eq_true HSE.out,decide_eq_true h200];rfl
     have HSR:Hid (gr.Right (grS H (ordH H))):=grS_rightL HRT.out h200
     have HGR:Hid (gr.Right G):=gr.right_of HDG.out
     have HIO:Hid (IntsAt w5 (.slice oa (ordH H).length oc) (ordH H)):=own_ints HO5.out
     obtain⟨n,hn⟩:∃n,(ordH H).length=n:=⟨_,rfl⟩
     have HSH:Hid (∀W,Below w5.heap.size w5 W→Calls Tryz.prog 64 #[hpv H (.slice a1 H.row.length c1) (.slice a2 H.roots.length c2) (.slice a3 H.mourned.length c3) (.slice a4 H.seen.length c4),.slice oa n oc] W fun e w'=>∃o r m ms,e = .returned (gr.gv o r m (grS H (ordH H)).next (grS H (ordH H)).seed)∧gr.OwnG w' W.heap.size o r m ms (grS H (ordH H))∧Below W.heap.size W w'):=fun W hW=>by
      have:=l10Shown_any (hpAt_below HH.out (HB5.out.trans (hW.mono HB5.out.size))) HRT.out (intsAt_below HIO.out hW) hle HRT.out.ordH_og.2 (fun x hx a ha=>ordH_root hx ha) (fun t ht=>HRT.out.ordH_slot ht)
      rw[hn]at this
      exact this
     have HC1:Hid (∀W o r m ms,gr.GraphAt W o r m ms (grS H (ordH H))→Calls Tryz.prog 52 #[gr.gv o r m (grS H (ordH H)).next (grS H (ordH H)).seed] W fun e w'=>e = .returned (.string (gr.bs (gr.canT (grS H (ordH H)))))∧Below W.heap.size W w'):=fun W o r m ms hW=>gr.l6Canon_any hW HSR.out
     have HC2:Hid (∀W,Below w5.heap.size w5 W→Calls Tryz.prog 52 #[gr.gv (.slice b1 n1 d1) (.slice b2 n2 d2) (.slice b3 n3 d3) G.next G.seed] W fun e w'=>e = .returned (.string (gr.bs (gr.canT G)))∧Below W.heap.size W w'):=fun W hW=>gr.l6Canon_any (gr.graphAt_below HG.out (HB5.out.trans (hW.mono HB5.out.size))) HGR.out
     rw[hn]at h200 ⊢
     have h200':(n:Int)≤200:=by omega
     generalize hSG:gr.canT (grS H (ordH H))=TS at *
     generalize hSN:(grS H (ordH H)).next=sn at *
     generalize hSS:(grS H (ordH H)).seed=ss at *
     generalize hTG:gr.canT G=TG at *
     clear hn hle HIO hSG hSN hSS hTG
     generalize hA0:(Act.mk _ [])=A0
     have e2:A0.tmps.getD 2 undef = .pointer (some ⟨w.heap.size,0,none⟩):=by rw[←hA0];rfl
     have e3:A0.tmps.getD 3 undef = .pointer (some ⟨w.heap.size+1,0,none⟩):=by rw[←hA0];rfl
     have e5:A0.tmps.getD 5 undef = .slice oa n oc:=by rw[←hA0];rfl
     have sz:A0.tmps.size=35:=by rw[←hA0];rfl
     have ed:A0.defers=[]:=by rw[←hA0]
     refine wp_region_guardedB (by kernel_rfl) DSm4 RelG relG_trans (relG_drew _) (by
         intro k o ho
         have hk:k<13:=(Array.getElem?_eq_some_iff.1 ho).1
         rcases (show k=0∨k=1∨k=2∨k=3∨k=4∨k=5∨k=6∨k=7∨k=8∨k=9∨k=10∨k=11∨k=12 by omega) with rfl|rfl|rfl|rfl|rfl|rfl|rfl|rfl|rfl|rfl|rfl|rfl|rfl<;>(obtain rfl:=Option.some.inj ho;simp[Region.binds])) 13 rfl dSm4 dSm4_inj (FSm4 (.slice oa n oc) (hpv H (.slice a1 H.row.length c1) (.slice a2 H.roots.length c2) (.slice a3 H.mourned.length c3) (.slice a4 H.seen.length c4)) (gr.gv (.slice b1 n1 d1) (.slice b2 n2 d2) (.slice b3 n3 d3) G.next G.seed) n sn ss (grS H (ordH H)) TS TG) ?_ ?_ ?_
     ·intro j t W W' hR h
      match j,h with
      |0,h=>exact h
      |1,h=>exact h
      |2,h=>exact h
      |3,h=>exact h
      |4,h=>exact h
      |5,h=>exact h
      |6,h=>exact by obtain⟨o,r,m,ms,e,g⟩:=h;exact⟨o,r,m,ms,e,gr.graphAt_below g hR⟩
      |7,h=>exact h
      |8,h=>exact h
      |9,h=>exact h
      |10,h=>exact h
      |11,h=>exact h
      |12,h=>exact h
      |_+13,h=>exact h.elim
     ·intro j o u W hj ho hR hF
      have ev:∀s,DSm4 s=true→s<35→(ovr DSm4 A0 u).tmps[s]?.getD undef=u s:=fun s h1 h2=>(getD_at _ _).symm.trans (eval_in h1 (by omega))
      have o2:(ovr DSm4 A0 u).tmps[2]?.getD undef=_:=(getD_at _ _).symm.trans ((eval_out (D:=DSm4) (a0:=A0) (u:=u) (s:=2) rfl (by omega)).trans e2)
      have o3:(ovr DSm4 A0 u).tmps[3]?.getD undef=_:=(getD_at _ _).symm.trans ((eval_out (D:=DSm4) (a0:=A0) (u:=u) (s:=3) rfl (by omega)).trans e3)
      have o5:(ovr DSm4 A0 u).tmps[5]?.getD undef=_:=(getD_at _ _).symm.trans ((eval_out (D:=DSm4) (a0:=A0) (u:=u) (s:=5) rfl (by omega)).trans e5)
      obtain⟨⟨y0,y1,y2,y3,y4⟩,⟨y5,y6,y7,y8⟩,-⟩:=nine_cells (nine_below HQ5.out hR)
      obtain⟨g0,g1,g2,g3,g4,-⟩:=gr.five_cells (gr.five_below HF5.out hR)
      rcases (show j=0∨j=1∨j=2∨j=3∨j=4∨j=5∨j=6∨j=7∨j=8∨j=9∨j=10∨j=11∨j=12 by omega) with rfl|rfl|rfl|rfl|rfl|rfl|rfl|rfl|rfl|rfl|rfl|rfl|rfl
      all_goals obtain rfl:=Option.some.inj ho
      ·refine tellVw (v:=(.slice oa n oc)) (wanted_none rfl) ?_ ?_ ?_ (relG_refl _) ?_
       ·exact rfl
       ·exact rfl
       ·simp only[execOp]
        go_simp
        try go_num
        try (rw[IntKind.wrap_i64];omega)
       ·exact rfl
      ·have x0:=(ev 23 rfl (by decide)).trans (hF 0 (by decide) (by simp[Region.binds]))
       refine tellVw (v:=.int .i64 (n:Int)) (wanted_none rfl) ?_ ?_ ?_ (relG_refl _) ?_
       ·exact rfl
       ·exact rfl
       ·simp only[execOp]
        go_simp
        try go_num
        try (rw[IntKind.wrap_i64];omega)
       ·exact rfl
      ·have x1:=(ev 24 rfl (by decide)).trans (hF 1 (by decide) (by simp[Region.binds]))
       refine tellVw (v:=.bool true) (wanted_none rfl) ?_ ?_ ?_ (relG_refl _) ?_
       ·exact rfl
       ·exact rfl
       ·simp only[execOp]
        go_simp
        try go_num
        try (rw[IntKind.wrap_i64];omega)
       ·exact rfl
      ·have x2:=(ev 25 rfl (by decide)).trans (hF 2 (by decide) (by simp[Region.binds]))
       refine tellVw (v:=.bool true) (wanted_none rfl) ?_ ?_ ?_ (relG_refl _) ?_
       ·exact rfl
       ·exact rfl
       ·simp only[execOp]
        go_simp
        try go_num
        try (rw[IntKind.wrap_i64];omega)
       ·exact rfl
      ·refine tellVw (v:=(hpv H (.slice a1 H.row.length c1) (.slice a2 H.roots.length c2) (.slice a3 H.mourned.length c3) (.slice a4 H.seen.length c4))) (wanted_yes (g:=3) (d:=26) rfl rfl rfl rfl (by omega) (hF 3 (by decide) (by simp[Region.binds]))) ?_ ?_ ?_ (relG_refl _) ?_
       ·exact rfl
       ·exact rfl
       ·simp only[execOp]
        go_simp
        try go_num
        try (rw[IntKind.wrap_i64];omega)
       ·exact rfl
      ·refine tellVw (v:=(.slice oa n oc)) (wanted_yes (g:=3) (d:=26) rfl rfl rfl rfl (by omega) (hF 3 (by decide) (by simp[Region.binds]))) ?_ ?_ ?_ (relG_refl _) ?_
       ·exact rfl
       ·exact rfl
       ·simp only[execOp]
        go_simp
        try go_num
        try (rw[IntKind.wrap_i64];omega)
       ·exact rfl
      ·have x4:=(ev 27 rfl (by decide)).trans (hF 4 (by decide) (by simp[Region.binds]))
       have x5:=(ev 28 rfl (by decide)).trans (hF 5 (by decide) (by simp[Region.binds]))
       refine tellCw (f:=64) (args:=#[(hpv H (.slice a1 H.row.length c1) (.slice a2 H.roots.length c2) (.slice a3 H.mourned.length c3) (.slice a4 H.seen.length c4)),(.slice oa n oc)]) (wanted_yes (g:=3) (d:=26) rfl rfl rfl rfl (by omega) (hF 3 (by decide) (by simp[Region.binds]))) rfl rfl ?_ ((HSH.out W hR).mono ?_)
       ·simp only[execOp]
        go_simp
       ·rintro e w' ⟨o,r,m,ms,rfl,og,hb⟩
        exact⟨_,rfl,hb,o,r,m,ms,rfl,gr.ownG_at og⟩
      ·have h6:=hF 6 (by decide) (by simp[Region.binds])
       obtain⟨o,r,m,ms,f29,g29⟩:=h6
       have x29:=(ev 29 rfl (by decide)).trans f29
       refine tellCw (f:=52) (args:=#[gr.gv o r m sn ss]) (wanted_yes (g:=3) (d:=26) rfl rfl rfl rfl (by omega) (hF 3 (by decide) (by simp[Region.binds]))) rfl rfl ?_ ((HC1.out W o r m ms g29).mono ?_)
       ·simp only[execOp]
        go_simp
       ·rintro e w' ⟨rfl,hb⟩
        exact⟨_,rfl,hb,rfl⟩
      ·refine tellVw (v:=(gr.gv (.slice b1 n1 d1) (.slice b2 n2 d2) (.slice b3 n3 d3) G.next G.seed)) (wanted_yes (g:=3) (d:=26) rfl rfl rfl rfl (by omega) (hF 3 (by decide) (by simp[Region.binds]))) ?_ ?_ ?_ (relG_refl _) ?_
       ·exact rfl
       ·exact rfl
       ·simp only[execOp]
        go_simp
        try go_num
        try (rw[IntKind.wrap_i64];omega)
       ·exact rfl
      ·have x8:=(ev 31 rfl (by decide)).trans (hF 8 (by decide) (by simp[Region.binds]))
       refine tellCw (f:=52) (args:=#[(gr.gv (.slice b1 n1 d1) (.slice b2 n2 d2) (.slice b3 n3 d3) G.next G.seed)]) (wanted_yes (g:=3) (d:=26) rfl rfl rfl rfl (by omega) (hF 3 (by decide) (by simp[Region.binds]))) rfl rfl ?_ ((HC2.out W hR).mono ?_)
       ·simp only[execOp]
        go_simp
       ·rintro e w' ⟨rfl,hb⟩
        exact⟨_,rfl,hb,rfl⟩
      ·have x7:=(ev 30 rfl (by decide)).trans (hF 7 (by decide) (by simp[Region.binds]))
       have x9:=(ev 32 rfl (by decide)).trans (hF 9 (by decide) (by simp[Region.binds]))
       refine tellVw (v:=.bool (TS==TG)) (wanted_yes (g:=3) (d:=26) rfl rfl rfl rfl (by omega) (hF 3 (by decide) (by simp[Region.binds]))) ?_ ?_ ?_ (relG_refl _) ?_
       ·exact rfl
       ·exact rfl
       ·simp only[execOp]
        go_simp
        try go_num
        try (rw[IntKind.wrap_i64];omega)
       ·exact rfl
      ·have x3:=(ev 26 rfl (by decide)).trans (hF 3 (by decide) (by simp[Region.binds]))
       have x10:=(ev 33 rfl (by decide)).trans (hF 10 (by decide) (by simp[Region.binds]))
       refine tellVw (v:=.bool (TS==TG)) (wanted_none rfl) ?_ ?_ ?_ (relG_refl _) ?_
       ·exact rfl
       ·exact rfl
       ·simp only[execOp]
        go_simp
        try go_num
        try (rw[IntKind.wrap_i64];omega)
       ·exact rfl
      ·have x11:=(ev 34 rfl (by decide)).trans (hF 11 (by decide) (by simp[Region.binds]))
       refine tellVw (v:=.bool (TS==TG)) (wanted_none rfl) ?_ ?_ ?_ (relG_refl _) ?_
       ·exact rfl
       ·exact rfl
       ·simp only[execOp]
        go_simp
        try go_num
        try (rw[IntKind.wrap_i64];omega)
       ·exact rfl
     ·intro u W hR hF
      have f12:=hF 12 (by decide)
      have f12:u 4 = .bool (TS==TG):=f12
      have HRW:Hid (Below w5.heap.size w5 W):=hR
      clear hF hR sz ed e2 e3 e5
      subst hA0
      simp[ovr,DSm4,List.range,List.range.loop,f12]
      go_wp2_with fail
      go_ret
      exact⟨by rw[HE.out];rfl,HB5.out.trans (HRW.out.mono HB5.out.size)⟩
    ·have h200':¬((ordH H).length:Int)≤200:=by omega
     have HE:Hid (R=false):=by show _=_;rw[←HR.out];unfold samB;rw[decide_eq_false h200];simp
     clear h200 hle
     go_quiet (fail)
     go_wp2_with fail
     go_ret
     exact⟨by rw[HE.out];rfl,HB5.out.trans ((bel_of_drewN ⟨_,rfl⟩).mono HB5.out.size)⟩
   ·have hse':(H.seed==G.seed)=false:=by simpa using hse
    have hse2:(H.seed != G.seed)=true:=by simp[hse]
    have HE:Hid (R=false):=by show _=_;rw[←HR.out];unfold samB;rw[decide_eq_false hse];simp
    clear hse
    go_wp2_with (first
     |(go_at_call 62;refine HK.mono ?_;clear HK z0 z1 z2 z3 z4 z5 z6 z7 z8 g0 g1 g2 g3 g4;rintro e w2 ⟨rfl,b2⟩;have HB2:Hid _:=HBX.out.trans (b2.mono HBX.out.size);have GK:=HGK.out w2 HB2.out;clear HGK;have HQ2':Hid _:=nine_below (hp_nine HQ2.out) b2;have HF3':Hid _:=gr.five_below HF3.out b2;obtain⟨⟨y0,y1,y2,y3,y4⟩,⟨y5,y6,y7,y8⟩,_⟩:=nine_cells HQ2'.out;obtain⟨g0,g1,g2,g3,g4,_⟩:=gr.five_cells HF3'.out;clear b2)
     |(go_at_call 19;refine GK.mono ?_;clear GK y0 y1 y2 y3 y4 y5 y6 y7 y8 g0 g1 g2 g3 g4;rintro e w3 ⟨rfl,b3⟩;have HB3:Hid _:=HB2.out.trans (b3.mono HB2.out.size);obtain⟨⟨y0,y1,y2,y3,y4⟩,⟨y5,y6,y7,y8⟩,_⟩:=nine_cells (nine_below HQ2'.out b3);obtain⟨g0,g1,g2,g3,g4,_⟩:=gr.five_cells (gr.five_below HF3'.out b3);clear b3))
    go_ret
    exact⟨by rw[HE.out];rfl,HB3.out⟩
end Go.Proofs.YtkiognecebgaiaaGreatDoor.hp
