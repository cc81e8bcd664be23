/-
  Chapter 9 as the specification has it: the places of all chunks.
  Made from the template HeapS5.
-/
import Derived.Test.YtkiognecebgaiaaGreatDoorM11
import Derived.Test.YtkiognecebgaiaaGreatDoorM1
import Derived.Deep.RegionLaw
import Derived.Deep.Cut
import Derived.Deep.CutRange
import Derived.Maps.AppendAt
namespace Go.Proofs.YtkiognecebgaiaaGreatDoor.hp
open Go.RowKit rows heads words walks region
set_option maxRecDepth 100000
set_option linter.unusedVariables false
set_option linter.unusedSimpArgs false
def HpBlk (w:World) (B:Nat) (H:Hp) (vr vo vm vs:Value):Prop:=Nine w B 58 (.int .i64 H.half) (.int .i64 H.old) vr (.int .i64 H.side) (.int .i64 H.top) vo vm vs (.int .i64 H.seed)
theorem ints_cell {w:World} {a:Option Addr} {n cap:Nat} {xs:List Int} (h:IntsAt w (.slice a n cap) xs) {k:Nat} (hk:k<xs.length):∃b off,a=some ⟨b,off,none⟩∧b<w.heap.size∧w.cell? ⟨b,off+k,none⟩=some (.int .i64 (xs.getD k 0)):=by
 obtain⟨a',c',e,_,_,_,hc⟩:=h
 injection e with e1 e2 e3
 subst e1
 obtain⟨b,off,rfl,hb,hcc⟩:=hc (by omega)
 exact⟨b,off,rfl,hb,hcc k hk⟩
set_option maxHeartbeats 16000000 in
theorem l9Places_good {w:World} {vr vo vm vs:Value} {H:Hp} (h:HpAt w vr vo vm vs H) (N:Nums H) (hd:hbad H=false) :
    Calls Tryz.prog 123 #[hpv H vr vo vm vs] w fun e w'=>∃v',e = .returned (.tuple #[v',.bool (placesR H).isSome])∧rows.Own w' w.heap.size v' ((placesR H).getD [])∧Below w.heap.size w w':=by
 obtain⟨R,hR⟩:∃R,placesR H=R:=⟨_,rfl⟩
 rw[hR]
 have hR2:placesB H=R:=by rw[←hR];unfold placesR;rw[if_neg (by rw[hd];decide)]
 clear hR
 obtain⟨a1,c1,a2,c2,a3,c3,a4,c4,e1,e2,e3,e4⟩:=hpAt_slices h
 subst e1 e2 e3 e4
 have B0:Below w.heap.size w ((w.alloc (hpb H (.slice a1 H.row.length c1) (.slice a2 H.roots.length c2) (.slice a3 H.mourned.length c3) (.slice a4 H.seen.length c4))).alloc (.cells #[] 2)):=((Below.refl _ _).alloc (Nat.le_refl _) _).alloc (by simp) _
 have HO0:Hid (rows.Own ((w.alloc (hpb H (.slice a1 H.row.length c1) (.slice a2 H.roots.length c2) (.slice a3 H.mourned.length c3) (.slice a4 H.seen.length c4))).alloc (.cells #[] 2)) w.heap.size (.slice (some ⟨w.heap.size+1,0,none⟩) 0 0) []):=own_nothing2 (by simp) (by omega)
 have T1:HpBlk ((w.alloc (hpb H (.slice a1 H.row.length c1) (.slice a2 H.roots.length c2) (.slice a3 H.mourned.length c3) (.slice a4 H.seen.length c4))).alloc (.cells #[] 2)) w.heap.size H (.slice a1 H.row.length c1) (.slice a2 H.roots.length c2) (.slice a3 H.mourned.length c3) (.slice a4 H.seen.length c4):=nine_below (nine_new w H _ _ _ _) ((Below.refl _ _).alloc (Nat.le_refl _) _)
 have HZ:Hid _:=nine_cells T1
 have HT1:Hid _:=T1
 have HB0:Hid _:=B0
 have HRow:Hid _:=intsAt_below h.1 B0
 have HD:Hid _:=hd
 have HN:Hid _:=N
 have HR2:Hid _:=hR2
 have sz0:w.heap.size+1<((w.alloc (hpb H (.slice a1 H.row.length c1) (.slice a2 H.roots.length c2) (.slice a3 H.mourned.length c3) (.slice a4 H.seen.length c4))).alloc (.cells #[] 2)).heap.size:=by simp
 clear B0 T1 h hd N hR2
 go_enter Tryz.func123,Tryz.ntmps123
 go_upto_region 2 with fail
 go_cut [79] from 14 to 78 (fun v wz=>v = .bool (hbad H)∧wz=((w.alloc (hpb H (.slice a1 H.row.length c1) (.slice a2 H.roots.length c2) (.slice a3 H.mourned.length c3) (.slice a4 H.seen.length c4))).alloc (.cells #[] 2)))
 case first=>
  rename_i J K' HJ HK
  obtain⟨⟨z0,z1,z2,z3,z4⟩,⟨z5,z6,z7,z8⟩,_⟩:=HZ.out
  refine regHead (p0:=hb0 H) (p1:=hb1 H) (p2:=hb2 H) (p3:=hb3 H) (p4:=hb4 H) (p5:=hb5 H) (p6:=hb6 H) (p7:=hb7 H) (p8:=hb8 H) (p9:=hbad H) rfl ⟨_,rfl,rfl,rfl,rfl⟩ ⟨_,rfl,rfl,rfl,rfl⟩ ⟨_,rfl,rfl,rfl,rfl⟩ ⟨_,rfl,rfl,rfl,rfl⟩ ⟨_,rfl,rfl,rfl,rfl⟩ ⟨_,rfl,rfl,rfl,rfl⟩ ⟨_,rfl,rfl,rfl,rfl⟩ ⟨_,rfl,rfl,rfl,rfl⟩ ⟨_,rfl,rfl,rfl,rfl⟩ ⟨_,rfl,rfl,rfl,rfl⟩ ⟨_,rfl,rfl,rfl,rfl⟩ ⟨_,rfl,rfl,rfl,rfl⟩ ⟨_,rfl,rfl,rfl,rfl⟩ ⟨_,rfl,rfl,rfl,rfl⟩ ⟨_,rfl,rfl,rfl,rfl⟩ ⟨_,rfl,rfl,rfl,rfl⟩ ⟨_,rfl,rfl,rfl,rfl⟩ ⟨_,rfl,rfl,rfl,rfl⟩ ⟨_,rfl,rfl,rfl,rfl⟩ ⟨_,rfl,rfl,rfl,rfl⟩ ⟨_,rfl,rfl,rfl,rfl⟩ ⟨_,rfl,rfl,rfl,rfl⟩ ⟨_,rfl,rfl,rfl,rfl⟩ ⟨_,rfl,rfl,rfl,rfl⟩ ⟨_,rfl,rfl,rfl,rfl⟩ ⟨_,rfl,rfl,rfl,rfl⟩ ⟨_,rfl,rfl,rfl,rfl⟩ ⟨_,rfl,rfl,rfl,rfl⟩ ⟨_,rfl,rfl,rfl,rfl⟩ ⟨_,rfl,rfl,rfl,rfl⟩ ⟨_,rfl,rfl,rfl,rfl⟩ ⟨_,rfl,rfl,rfl,rfl⟩ ⟨_,rfl,rfl,rfl,rfl⟩ ⟨_,rfl,rfl,rfl,rfl⟩ ⟨_,rfl,rfl,rfl,rfl⟩ ⟨_,rfl,rfl,rfl,rfl⟩ ⟨_,rfl,rfl,rfl,rfl⟩ ⟨_,rfl,rfl,rfl,rfl⟩ ⟨_,rfl,rfl,rfl,rfl⟩ ⟨_,rfl,rfl,rfl,rfl⟩ ⟨_,rfl,rfl,rfl,rfl⟩ ⟨_,rfl,rfl,rfl,rfl⟩ ⟨_,rfl,rfl,rfl,rfl⟩ ⟨_,rfl,rfl,rfl,rfl⟩ ⟨_,rfl,rfl,rfl,rfl⟩ ⟨_,rfl,rfl,rfl,rfl⟩ ⟨_,rfl,rfl,rfl,rfl⟩ ⟨_,rfl,rfl,rfl,rfl⟩ ⟨_,rfl,rfl,rfl,rfl⟩ ⟨_,rfl,rfl,rfl,rfl⟩ ⟨_,rfl,rfl,rfl,rfl⟩ ⟨_,rfl,rfl,rfl,rfl⟩ ⟨_,rfl,rfl,rfl,rfl⟩ ⟨_,rfl,rfl,rfl,rfl⟩ ⟨_,rfl,rfl,rfl,rfl⟩ ⟨_,rfl,rfl,rfl,rfl⟩ ⟨_,rfl,rfl,rfl,rfl⟩ ⟨_,rfl,rfl,rfl,rfl⟩ ⟨_,rfl,rfl,rfl,rfl⟩ ⟨_,rfl,rfl,rfl,rfl⟩ ⟨_,rfl,rfl,rfl,rfl⟩ ⟨_,rfl,rfl,rfl,rfl⟩ ⟨_,rfl,rfl,rfl,rfl⟩ ⟨_,rfl,rfl,rfl,rfl⟩ ⟨_,rfl,rfl,rfl,rfl⟩ ⟨_,rfl,rfl,rfl,rfl⟩ (by simp) rfl z0 z1 z2 z3 z4 z5 z6 z8 rfl rfl rfl rfl rfl rfl rfl rfl rfl rfl ?_
  intro u hu
  exact HK _ _ (Met.intro (HJ _ _ ⟨u 14,u 15,u 16,u 17,u 18,u 19,u 20,u 21,u 22,u 23,u 24,u 25,u 26,u 27,u 28,u 29,u 30,u 31,u 32,u 33,u 34,u 35,u 36,u 37,u 38,u 39,u 40,u 41,u 42,u 43,u 44,u 45,u 46,u 47,u 48,u 49,u 50,u 51,u 52,u 53,u 54,u 55,u 56,u 57,u 58,u 59,u 60,u 61,u 62,u 63,u 64,u 65,u 66,u 67,u 68,u 69,u 70,u 71,u 72,u 73,u 74,u 75,u 76,u 77,u 78,u 79,⟨hu,rfl⟩,rfl⟩))
 obtain⟨rfl,rfl⟩:=hcut
 rw[HD.out]
 obtain⟨⟨z0,z1,z2,z3,z4⟩,⟨z5,z6,z7,z8⟩,_⟩:=HZ.out
 clear HZ HD
 generalize ((w.alloc (hpb H (.slice a1 H.row.length c1) (.slice a2 H.roots.length c2) (.slice a3 H.mourned.length c3) (.slice a4 H.seen.length c4))).alloc (.cells #[] 2))=X at *
 have eH:=HN.out.half
 have eO:=HN.out.old
 have eB:=HN.out.base
 have eT:=HN.out.top
 have n1:=HN.out.half1
 have n2:=HN.out.old1
 have n3:=HN.out.len
 have n4:=HN.out.room
 rw[eH]at z0 eB
 rw[eO]at z1
 rw[eT]at z4
 generalize hHF:hf H=F at *
 generalize hOD:od H=D at *
 generalize hBS:bs H=b0 at *
 generalize hTP:tp H=t0 at *
 have HE:Hid _:=And.intro hHF (And.intro hOD (And.intro hBS hTP))
 have HL:Hid _:=n3
 have bF:F≤200:=n1.2.1
 have bD:D≤400:=n2.2.1
 have bD8:8≤D:=n2.1
 have bB:b0+t0≤2*F:=n4
 obtain⟨M,hM⟩:∃M:Nat,2*F=M:=⟨_,rfl⟩
 have eM:2*(F:Int)=(M:Int):=by omega
 obtain⟨E,hE⟩:∃E:Nat,b0+t0=E:=⟨_,rfl⟩
 have eE:(b0:Int)+(t0:Int)=(E:Int):=by omega
 have HMM:Hid _:=hM
 have HEE:Hid _:=hE
 have bM:M≤400:=by omega
 have bE:E≤M:=by omega
 have bb0:b0≤E:=by omega
 clear eH eO eT n1 n2 n3 n4 hHF hOD hBS hTP hM hE
 go_wp2_with fail
 go_loopw [6] (fun p wr=>∃k:Nat,k≤M∧p = .int .i64 (k:Int)∧(∀j,j<k→zeroAt H j=true)∧wr=X) (fun p _=>M-(intOf p).toNat)
 case atStart=>exact⟨0,Nat.zero_le _,rfl,fun j hj=>by omega,rfl⟩
 case round=>
  obtain⟨k,hk,rfl,hall,hw⟩:=hrel
  subst hw
  by_cases hlt:k<M
  ·have HZA:Hid (zeroAt H k=(!(decide (k<b0) || decide (E≤k)) || (H.row.getD k 0==0))):=by
     show zeroAt H k=_
     unfold zeroAt
     rw[HE.out.2.2.1,HE.out.2.2.2,HEE.out]
   by_cases h1:k<b0
   ·have h1':(k:Int)<(b0:Int):=by omega
    obtain⟨rb,ro,rfl,hrb,x0⟩:=ints_cell HRow.out (k:=k) (by have:=HL.out;omega)
    by_cases hy:H.row.getD k 0=0
    ·have HV:Hid (∀j,j<k+1→zeroAt H j=true):=by
       intro j hj
       by_cases e:j=k
       ·rw[e,HZA.out,hy];simp
       ·exact hall j (by omega)
     rw[hy]at x0
     have y1:((0:Int) != 0)=false:=by decide
     have kl:k<H.row.length:=by have:=HL.out;omega
     clear hall HZA hy
     go_wp2
     exact⟨⟨k+1,by omega,by go_num,HV,by trivial⟩,by simp[intOf];omega⟩
    ·have HF:Hid (R=none):=by
       show R=none
       rw[←HR2.out]
       refine placesB_zero (zeroB_false (i:=k) (by rw[HE.out.1];have:=HMM.out;omega) ?_)
       rw[HZA.out]
       simp[h1]
       simpa using hy
     have y1:(H.row.getD k 0 != 0)=true:=by simpa using hy
     have kl:k<H.row.length:=by have:=HL.out;omega
     clear hall HZA hy
     generalize H.row.getD k 0=y at *
     go_wp2
     go_ret2
     rw[HF.out]
     exact⟨_,rfl,HO0.out,HB0.out⟩
   ·have h1':¬(k:Int)<(b0:Int):=by omega
    by_cases h2:E≤k
    ·have h2':(k:Int) ≥ (E:Int):=by omega
     obtain⟨rb,ro,rfl,hrb,x0⟩:=ints_cell HRow.out (k:=k) (by have:=HL.out;omega)
     by_cases hy:H.row.getD k 0=0
     ·have HV:Hid (∀j,j<k+1→zeroAt H j=true):=by
        intro j hj
        by_cases e:j=k
        ·rw[e,HZA.out,hy];simp
        ·exact hall j (by omega)
      rw[hy]at x0
      have y1:((0:Int) != 0)=false:=by decide
      have kl:k<H.row.length:=by have:=HL.out;omega
      clear hall HZA hy
      go_wp2
      exact⟨⟨k+1,by omega,by go_num,HV,by trivial⟩,by simp[intOf];omega⟩
     ·have HF:Hid (R=none):=by
        show R=none
        rw[←HR2.out]
        refine placesB_zero (zeroB_false (i:=k) (by rw[HE.out.1];have:=HMM.out;omega) ?_)
        rw[HZA.out]
        simp[h2]
        simpa using hy
      have y1:(H.row.getD k 0 != 0)=true:=by simpa using hy
      have kl:k<H.row.length:=by have:=HL.out;omega
      clear hall HZA hy
      generalize H.row.getD k 0=y at *
      go_wp2
      go_ret2
      rw[HF.out]
      exact⟨_,rfl,HO0.out,HB0.out⟩
    ·have h2':¬(k:Int) ≥ (E:Int):=by omega
     have HV:Hid (∀j,j<k+1→zeroAt H j=true):=by
      intro j hj
      by_cases e:j=k
      ·rw[e,HZA.out];simp[h1,h2]
      ·exact hall j (by omega)
     clear hall HZA
     go_wp2
     exact⟨⟨k+1,by omega,by go_num,HV,by trivial⟩,by simp[intOf];omega⟩
  ·have hlt':¬(k:Int)<(M:Int):=by omega
   have HZB:Hid (zeroB H=true):=zeroB_true (fun i hi=>hall i (by rw[HE.out.1]at hi;have:=HMM.out;omega))
   clear hall
   obtain⟨T,hT⟩:∃T:Nat,M+D=T:=⟨_,rfl⟩
   have eTT:(M:Int)+(D:Int)=(T:Int):=by omega
   have hlen:H.row.length=T:=by have:=HL.out;have:=HMM.out;omega
   have bT:T≤800:=by omega
   have bMT:M<T:=by omega
   have W1:=l4Walk_any HRow.out (by omega) b0 E (by omega)
   have eW1:walkO H.row b0 E=roomW H:=by unfold roomW;rw[HE.out.2.2.1,HE.out.2.2.2,HEE.out]
   have W2:∀W,Below wr.heap.size wr W→_:=fun W hW=>l4Walk_any (intsAt_below HRow.out hW) (by omega) M T (by omega)
   have eW2:walkO H.row M T=upW H:=by unfold upW;rw[HE.out.1,HE.out.2.1,HMM.out,hT]
   rw[eW1]at W1
   rw[eW2]at W2
   have HLEN:Hid _:=hlen
   clear eW1 eW2 hlen hT
   have HW2:Hid _:=W2
   clear W2
   cases dr:roomW H with
   |none=>
    rw[dr]at W1
    have HF:Hid (R=none):=by show R=none;rw[←HR2.out];exact placesB_room dr
    clear dr
    go_wp2_with fail
    refine W1.mono ?_
    clear W1
    rintro e w1 ⟨v1,rfl,O1,b1⟩
    have W2:=HW2.out w1 b1
    obtain⟨b2,hb2⟩:∃b2,(upW H).isSome=b2:=⟨_,rfl⟩
    rw[hb2]at W2
    have T1:=nine_below HT1.out b1
    obtain⟨⟨y0,y1,y2,y3,y4⟩,⟨y5,y6,y7,y8⟩,_⟩:=nine_cells T1
    have eH:=HN.out.half
    have eO:=HN.out.old
    rw[HE.out.1]at eH
    rw[HE.out.2.1]at eO
    rw[eH]at y0
    rw[eO]at y1
    have HB1:Hid _:=HB0.out.trans (b1.mono HB0.out.size)
    have HO1:Hid _:=own_below HO0.out b1
    obtain⟨va,vn,vc,rfl⟩:=ints_slice (own_ints O1)
    clear T1 b1 O1 HW2 hb2 eH eO z0 z1 z2 z3 z4 z5 z6 z7 z8
    go_wp2_with fail
    refine W2.mono ?_
    clear W2
    rintro e w2 ⟨v2,rfl,O2,b2'⟩
    obtain⟨ua,un,uc,rfl⟩:=ints_slice (own_ints O2)
    have HB2:Hid _:=HB1.out.trans (b2'.mono HB1.out.size)
    have HO2:Hid _:=own_below HO1.out b2'
    clear O2 b2'
    go_wp2
    go_ret2
    rw[HF.out]
    exact⟨_,rfl,HO2.out,HB2.out⟩
   |some r=>
    rw[dr]at W1
    have HDR:Hid _:=dr
    clear dr
    cases du:upW H with
    |none=>
     rw[du]at HW2
     have HF:Hid (R=none):=by show R=none;rw[←HR2.out];exact placesB_up du
     clear du
     go_wp2_with fail
     refine W1.mono ?_
     clear W1
     rintro e w1 ⟨v1,rfl,O1,b1⟩
     have W2:=HW2.out w1 b1
     have T1:=nine_below HT1.out b1
     obtain⟨⟨y0,y1,y2,y3,y4⟩,⟨y5,y6,y7,y8⟩,_⟩:=nine_cells T1
     have eH:=HN.out.half
     have eO:=HN.out.old
     rw[HE.out.1]at eH
     rw[HE.out.2.1]at eO
     rw[eH]at y0
     rw[eO]at y1
     have HB1:Hid _:=HB0.out.trans (b1.mono HB0.out.size)
     have HO1:Hid _:=own_below HO0.out b1
     obtain⟨va,vn,vc,rfl⟩:=ints_slice (own_ints O1)
     clear T1 b1 O1 HW2 eH eO z0 z1 z2 z3 z4 z5 z6 z7 z8
     go_wp2_with fail
     refine W2.mono ?_
     clear W2
     rintro e w2 ⟨v2,rfl,O2,b2'⟩
     obtain⟨ua,un,uc,rfl⟩:=ints_slice (own_ints O2)
     have HB2:Hid _:=HB1.out.trans (b2'.mono HB1.out.size)
     have HO2:Hid _:=own_below HO1.out b2'
     clear O2 b2'
     go_wp2
     go_ret2
     rw[HF.out]
     exact⟨_,rfl,HO2.out,HB2.out⟩
    |some u=>
     rw[du]at HW2
     have HDU:Hid _:=du
     clear du
     go_wp2_with fail
     refine W1.mono ?_
     clear W1
     rintro e w1 ⟨v1,rfl,O1,b1⟩
     have W2:=HW2.out w1 b1
     have T1:=nine_below HT1.out b1
     obtain⟨⟨y0,y1,y2,y3,y4⟩,⟨y5,y6,y7,y8⟩,_⟩:=nine_cells T1
     have eH:=HN.out.half
     have eO:=HN.out.old
     rw[HE.out.1]at eH
     rw[HE.out.2.1]at eO
     rw[eH]at y0
     rw[eO]at y1
     have HB1:Hid _:=HB0.out.trans (b1.mono HB0.out.size)
     have HO1:Hid _:=own_below HO0.out b1
     have HT2:Hid _:=T1
     have HRow1:Hid _:=intsAt_below HRow.out b1
     have HR1:Hid (rows.Own w1 wr.heap.size v1 r):=O1
     obtain⟨va,vc,rfl,hv1,hv2,_,_⟩:=own_ints O1
     have s1:=b1.size
     clear T1 b1 O1 HW2 eH eO z0 z1 z2 z3 z4 z5 z6 z7 z8 HT1 HO0 HB0 HRow
     go_wp2_with fail
     refine W2.mono ?_
     clear W2
     rintro e w2 ⟨v2,rfl,O2,b2'⟩
     have HB2:Hid _:=HB1.out.trans (b2'.mono HB1.out.size)
     have HO2:Hid _:=own_below HO1.out b2'
     have HT3:Hid _:=nine_below HT2.out b2'
     have HRow2:Hid _:=intsAt_below HRow1.out b2'
     have HR2':Hid _:=own_below HR1.out b2'
     have HU2:Hid (rows.Own w2 w1.heap.size v2 u):=O2
     obtain⟨ua,uc,rfl,hu1,hu2,_,_⟩:=own_ints O2
     have s2:=b2'.size
     have q1:=HN.out.room
     have q2:=HN.out.half1
     have q3:=HN.out.old1
     have q4:=HN.out.len
     have rl:=(walkO_len (by omega) HDR.out).1
     have ul:=(walkO_len (by omega) HDU.out).1
     have HPos:Hid (0<u.length):=walkO_pos (by omega) HDU.out
     have HMem:Hid (∀x ∈ r,∃j:Nat,x=j∧j<H.row.length):=fun x hx=>by
      obtain⟨j,e,_,a,_⟩:=walkO_mem (by omega) HDR.out hx
      exact⟨j,e,by omega⟩
     have rl':r.length≤1000:=by omega
     have ul':u.length≤1000:=by omega
     clear q1 q2 q3 q4
     clear O2 b2' HB1 HO1 HT2 HRow1 HR1 y0 y1 y2 y3 y4 y5 y6 y7 y8 rl ul
     go_wp2_with fail
     go_loopw [11] (fun p wz=>∃k:Nat,k≤r.length∧p = .int .i64 (k:Int)∧(∀j,j<k→roomOk H (r.getD j 0)=true)∧Below w2.heap.size w2 wz) (fun p _=>r.length-(intOf p).toNat)
     case atStart=>exact⟨0,Nat.zero_le _,rfl,fun j hj=>by omega,Below.refl _ _⟩
     case round=>
      obtain⟨k,hk,rfl,hall,hB⟩:=hrel
      have T5:=nine_below HT3.out hB
      have Row5:=intsAt_below HRow2.out hB
      have R5:=own_below HR2'.out hB
      have sz5:=hB.size
      by_cases hlt:k<r.length
      ·have hlt':(k:Int)<(r.length:Int):=by omega
       obtain⟨j,hj,hjl⟩:=HMem.out (r.getD k 0) (by rw[List.getD_eq_getElem?_getD,List.getElem?_eq_getElem hlt];exact List.getElem_mem hlt)
       obtain⟨lb,lo,ev,hlb,x0⟩:=ints_cell (own_ints R5) hlt
       subst ev
       have hroom:roomOk H (r.getD k 0)=(!(uF (H.row.getD j 0)==6) && !(uP (H.row.getD j 0))):=by unfold roomOk;rw[hj];rfl
       have HROOM:Hid _:=hroom
       rw[hj]at x0
       obtain⟨⟨z0,z1,z2,z3,z4⟩,⟨z5,z6,z7,z8⟩,_⟩:=nine_cells T5
       have BA:=(Below.refl wr.heap.size wr).alloc (Nat.le_refl _) (hb 0 0 0 0 false false)
       have z2':=(BA.cell (p:=⟨w.heap.size,2,none⟩) (World.block_lt_of_cell? _ _ z2)).trans z2
       have x0':=(BA.cell (p:=⟨lb,lo+k,none⟩) hlb).trans x0
       have HL4:Hid (∀W,Below wr.heap.size wr W→Calls Tryz.prog 100 #[.slice a1 H.row.length c1,.int .i64 (j:Int)] W fun e w'=>e = .returned (hv (uS (H.row.getD j 0)) (uF (H.row.getD j 0)) (uC (H.row.getD j 0)) (uH (H.row.getD j 0)) (uP (H.row.getD j 0)) (uM (H.row.getD j 0)))∧Below W.heap.size W w'):=fun W hW=>l4Head_any (intsAt_below Row5 hW) j hjl
       have HA:Hid (∀W,Below (wr.alloc (hb 0 0 0 0 false false)).heap.size (wr.alloc (hb 0 0 0 0 false false)) W→HeadAt W wr.heap.size 0 0 0 0 false false):=fun W hW=>headAt_below (headAt_new wr 0 0 0 0 false false) hW
       have HBA:Hid _:=BA
       have HBz:Hid _:=hB
       clear T5 R5 Row5 hj hroom BA hB
       generalize uF (H.row.getD j 0)=f at *
       generalize uS (H.row.getD j 0)=s at *
       generalize uC (H.row.getD j 0)=c at *
       generalize uH (H.row.getD j 0)=g at *
       generalize uP (H.row.getD j 0)=p at *
       generalize uM (H.row.getD j 0)=m at *
       go_upto_region 17 with fail
       go_cut [11,12] from 146 to 166 (fun i q wy=>i = .int .i64 (k:Int)∧∃B,q = .pointer (some ⟨B,0,none⟩)∧HeadAt wy B s f c g p m∧Below wr.heap.size wr wy)
       case first=>
        go_region_law (first
         |(go_simp;go_at_call 100;refine (HL4.out _ HBA.out.drew).mono ?_;clear HL4;rintro e w6 ⟨rfl,b6⟩;have b7:Below (wr.alloc (hb 0 0 0 0 false false)).heap.size (wr.alloc (hb 0 0 0 0 false false)) w6:=⟨b6.os,b6.tape,b6.output,b6.size,b6.block⟩;have TA:=HA.out w6 b7;obtain⟨t0',t1',t2',t3',t4',t5',tf⟩:=headAt_cells TA;have f0:=tf 0;have f1:=tf 1;have f2:=tf 2;have f3:=tf 3;have f4:=tf 4;have f5:=tf 5;have HEnd:Hid _:=And.intro (six_set TA s f c g p m) (six_below (HBA.out.trans (b7.mono HBA.out.size)) (Nat.le_refl wr.heap.size) s f c g p m);clear b6 b7 TA tf)
         |(go_simp;go_at_call 100;refine (HL4.out _ (Below.refl _ _).drew).mono ?_;clear HL4;rintro e w6 ⟨rfl,b6⟩;have b7:Below wr.heap.size wr w6:=⟨b6.os,b6.tape,b6.output,b6.size,b6.block⟩;have HEnd:Hid _:=And.intro (headAt_new w6 s f c g p m) (b7.alloc b7.size (hb s f c g p m));clear b6 b7))
        all_goals (go_wp2_with fail)
        all_goals go_meet
        all_goals exact⟨rfl,_,rfl,HEnd.out.1,HEnd.out.2⟩
       obtain⟨rfl,B,rfl,hHd,hBy⟩:=hcut
       obtain⟨t0',t1',t2',t3',t4',t5',_⟩:=headAt_cells hHd
       have HB7:Hid (Below w2.heap.size w2 wc):=HBz.out.trans (hBy.mono HBz.out.size)
       have HOE:Hid _:=own_below HO2.out HB7.out
       have HBE:Hid _:=HB2.out.trans (HB7.out.mono HB2.out.size)
       clear z0 z1 z2 z3 z4 z5 z6 z7 z8 z2' x0 x0' HL4 HA HBA hHd hBy
       by_cases h6:f=6
       ·subst h6
        have HF:Hid (R=none):=by
         show R=none
         rw[←HR2.out]
         exact placesB_no HDR.out (all_no hlt (by rw[HROOM.out];rfl))
        clear HROOM hall
        go_wp2
        go_ret2
        rw[HF.out]
        exact⟨_,rfl,HOE.out,HBE.out⟩
       ·have h6':(f==6)=false:=by simpa using h6
        cases p with
        |true=>
         have HF:Hid (R=none):=by
          show R=none
          rw[←HR2.out]
          exact placesB_no HDR.out (all_no hlt (by rw[HROOM.out,h6'];rfl))
         clear HROOM hall
         go_wp2
         go_ret2
         rw[HF.out]
         exact⟨_,rfl,HOE.out,HBE.out⟩
        |false=>
         have HV:Hid (∀j,j<k+1→roomOk H (r.getD j 0)=true):=by
          intro j' hj'
          by_cases e:j'=k
          ·rw[e,HROOM.out,h6'];rfl
          ·exact hall j' (by omega)
         clear HROOM hall
         go_wp2
         exact⟨⟨k+1,by omega,by go_num,HV,HB7.out⟩,by simp[intOf];omega⟩
      ·have hlt':¬(k:Int)<(r.length:Int):=by omega
       have HF:Hid (R=some (r++u)):=by
        show R=_
        rw[←HR2.out]
        exact placesB_yes HZB.out HDR.out HDU.out (all_yes (fun j hj=>hall j (by omega)))
       have U5:=own_below HU2.out hB
       obtain⟨ub,uo,ev,hub,_⟩:=ints_cell (own_ints U5) (k:=0) HPos.out
       subst ev
       have HNW:Hid _:=ints_news (own_ints U5)
       have HRO:Hid (rows.Own wr w.heap.size (.slice va r.length vc) r):=own_base R5 (by omega)
       have HBw:Hid _:=HB2.out.trans (hB.mono HB2.out.size)
       have sb:w.heap.size≤wr.heap.size:=HBw.out.size
       obtain⟨i0,hi,hz0,hz1,hz2⟩:=info_parts info
       have HI:Hid _:=And.intro hi (And.intro hz0 (And.intro hz1 hz2))
       clear T5 Row5 R5 U5 hall hi hz0 hz1 hz2
       go_wp2_with (refine wpList_append_own_at _ rfl (.tmp 167) (.tmp 168) 48 rfl w.heap.size 2 i0 (.int .i64 0) 1 8 Tryz.underlying48 HI.out.1 HI.out.2.1 HI.out.2.2.1 HI.out.2.2.2 rfl (by decide) (.slice va r.length vc) r.length (cellsOf r) rfl HRO.out ⟨ub,uo,none⟩ u.length uc (cellsOf u) rfl (by simp) HNW.out (ints_oneCell _ _) (by unfold maxLen;omega) (by omega) sb ?_;intro v' w8 hrow hg _ _;have HR8:Hid _:=hrow;have HG8:Hid _:=hg;clear hrow hg)
       have O8:rows.Own w8 w.heap.size v' (r++u):=by
        have:=HR8.out
        unfold rows.Own
        have e:cellsOf (r++u)=cellsOf r++cellsOf u:=by simp[cellsOf]
        rw[e,List.length_append]
        exact this
       have B8:Below w.heap.size w w8:=HBw.out.trans ((Below.refl _ _).grown HG8.out sb (fun k e=>(own_in HRO.out k e).1))
       have HO8:Hid _:=O8
       have HB8:Hid _:=B8
       obtain⟨oa,on,oc,rfl⟩:=ints_slice (own_ints O8)
       clear O8 B8 HR8 HG8
       go_ret2
       rw[HF.out]
       exact⟨_,rfl,HO8.out,HB8.out⟩
theorem l9Places_any {w:World} {vr vo vm vs:Value} {H:Hp} (h:HpAt w vr vo vm vs H) :
    Calls Tryz.prog 123 #[hpv H vr vo vm vs] w fun e w'=>∃v',e = .returned (.tuple #[v',.bool (placesR H).isSome])∧rows.Own w' w.heap.size v' ((placesR H).getD [])∧Below w.heap.size w w':=by
 cases d:hbad H
 ·exact l9Places_good h (nums_of d) d
 ·have e:placesR H=none:=by unfold placesR;rw[if_pos d]
  rw[e]
  exact places_head h d
end Go.Proofs.YtkiognecebgaiaaGreatDoor.hp
