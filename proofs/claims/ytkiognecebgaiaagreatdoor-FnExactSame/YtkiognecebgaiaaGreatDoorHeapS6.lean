/-
  Chapter 9 as the specification has it: is all right, but for what is seen?
  Made from the template HeapS6.
-/
import Derived.Test.YtkiognecebgaiaaGreatDoorM12
namespace Go.Proofs.YtkiognecebgaiaaGreatDoor.hp
open Go.RowKit rows heads words walks region
set_option maxRecDepth 100000
set_option linter.unusedVariables false
set_option linter.unusedSimpArgs false
set_option maxHeartbeats 16000000 in
theorem l9Right_some {w:World} {vr vo vm vs:Value} {H:Hp} (h:HpAt w vr vo vm vs H) {ps:List Int} (hps:placesR H=some ps) :
    Calls Tryz.prog 94 #[hpv H vr vo vm vs] w fun e w'=>e = .returned (.bool (slotsOk H ps&&endsOk H ps&&H.roots.all (wordIn H ps)&&mournOk H ps))∧Below w.heap.size w w':=by
 obtain⟨RV,hRV⟩:∃RV,(slotsOk H ps&&endsOk H ps&&H.roots.all (wordIn H ps)&&mournOk H ps)=RV:=⟨_,rfl⟩
 rw[hRV]
 have HRV:Hid _:=hRV
 obtain⟨hplc,hpl⟩:=places_plc hps
 obtain⟨N,_⟩:=places_facts hps
 have HPC:Hid _:=hplc
 have HPL:Hid (Plc H ps):=fun p hp=>by obtain⟨j,a,b,_⟩:=hplc p hp;exact⟨j,a,b⟩
 obtain⟨a1,c1,a2,c2,a3,c3,a4,c4,e1,e2,e3,e4⟩:=hpAt_slices h
 subst e1 e2 e3 e4
 have HR6:Hid _:=N.roots
 have ml:=N.mourned
 have rowl:H.row.length≤800:=by have:=N.len;have:=N.half1;have:=N.old1;omega
 have B0:Below w.heap.size w (w.alloc (hpb H (.slice a1 H.row.length c1) (.slice a2 H.roots.length c2) (.slice a3 H.mourned.length c3) (.slice a4 H.seen.length c4))):=(Below.refl _ _).alloc (Nat.le_refl _) _
 have T0:=nine_new w H (.slice a1 H.row.length c1) (.slice a2 H.roots.length c2) (.slice a3 H.mourned.length c3) (.slice a4 H.seen.length c4)
 have PL:=l9Places_any (hpAt_below h B0)
 rw[hps]at PL
 obtain⟨⟨z0,z1,z2,z3,z4⟩,⟨z5,z6,z7,z8⟩,_⟩:=nine_cells T0
 have HT0:Hid _:=T0
 have HB0:Hid _:=B0
 have HH0:Hid _:=hpAt_below h B0
 clear B0 T0 h hRV hps hplc N
 go_enter Tryz.func94,Tryz.ntmps94
 go_wp2_with fail
 generalize (w.alloc (hpb H (.slice a1 H.row.length c1) (.slice a2 H.roots.length c2) (.slice a3 H.mourned.length c3) (.slice a4 H.seen.length c4)))=X at *
 refine PL.mono ?_
 clear PL
 rintro e w1 ⟨vp,rfl,O1,b1⟩
 have HO1:Hid (rows.Own w1 X.heap.size vp ps):=O1
 obtain⟨pa,pc,rfl,hp1,hp2,_,_⟩:=own_ints O1
 have HT1:Hid _:=nine_below HT0.out b1
 have HH1:Hid (HpAt w1 (.slice a1 H.row.length c1) (.slice a2 H.roots.length c2) (.slice a3 H.mourned.length c3) (.slice a4 H.seen.length c4) H):=hpAt_below HH0.out b1
 have HB1:Hid _:=HB0.out.trans (b1.mono HB0.out.size)
 have hwlt:=lt_of_block HT1.out
 clear O1 b1 HT0 HH0 HB0 z0 z1 z2 z3 z4 z5 z6 z7 z8
 go_wp2_with fail
 go_loopw [5] (fun p wr=>∃k:Nat,k≤ps.length∧p = .int .i64 (k:Int)∧(∀j,j<k→(slotsOf H (ps.getD j 0)).all (wordIn H ps)=true)∧Below w1.heap.size w1 wr) (fun p _=>ps.length-(intOf p).toNat)
 case atStart=>exact⟨0,Nat.zero_le _,rfl,fun j hj=>by omega,Below.refl _ _⟩
 case round=>
  obtain⟨k,hk,rfl,hall,hB⟩:=hrel
  by_cases hlt:k<ps.length
  ·have hlt':(k:Int)<(ps.length:Int):=by omega
   have T5:=nine_below HT1.out hB
   have Row5:=intsAt_below HH1.out.1 hB
   have R5:=own_below HO1.out hB
   obtain⟨j,hj,hjl,hch⟩:=HPC.out (ps.getD k 0) (by rw[List.getD_eq_getElem?_getD,List.getElem?_eq_getElem hlt];exact List.getElem_mem hlt)
   obtain⟨lb,lo,ev,hlb,x0⟩:=ints_cell (own_ints R5) hlt
   subst ev
   rw[hj]at x0
   have HJ:Hid _:=hj
   obtain⟨⟨z0,z1,z2,z3,z4⟩,⟨z5,z6,z7,z8⟩,_⟩:=nine_cells T5
   have hcs:=chunk_slots hch
   have HSL:Hid _:=slots_len (H:=H) hch
   obtain⟨cn,hcn⟩:∃cn:Nat,cnS (H.row.getD j 0)=(cn:Int):=⟨(cnS (H.row.getD j 0)).toNat,by omega⟩
   rw[hcn]at hcs HSL
   rw[Int.toNat_natCast]at HSL
   have HSG:Hid (∀i,i<cn→(slotsOf H (j:Int)).getD i 0=H.row.getD (j+1+i) 0):=fun i hi=>slots_getD (by rw[hcn,Int.toNat_natCast];exact hi)
   have HLC:Hid (∀W,Calls Tryz.prog 124 #[hv (uS (H.row.getD j 0)) (uF (H.row.getD j 0)) (uC (H.row.getD j 0)) (uH (H.row.getD j 0)) (uP (H.row.getD j 0)) (uM (H.row.getD j 0))] W fun e w'=>e = .returned (.int .i64 (cn:Int))∧Below W.heap.size W w'):=fun W=>(l4Count_any _ _ _ _ _ _ W).mono fun e w' ⟨he,hw⟩=>⟨by rw[he,←hcn];rfl,by rw[hw];exact (Below.refl _ _).alloc (Nat.le_refl _) _⟩
   have bcn:(j:Int)+1+cn≤H.row.length:=hcs.2
   clear hj hcs hcn
   have BA:=(Below.refl wr.heap.size wr).alloc (Nat.le_refl _) (hb 0 0 0 0 false false)
   have z2':=(BA.cell (p:=⟨w.heap.size,2,none⟩) (World.block_lt_of_cell? _ _ z2)).trans z2
   have x0':=(BA.cell (p:=⟨lb,lo+k,none⟩) hlb).trans x0
   have HL4:Hid (∀W,Below wr.heap.size wr W→Calls Tryz.prog 100 #[.slice a1 H.row.length c1,.int .i64 (j:Int)] W fun e w'=>e = .returned (hv (uS (H.row.getD j 0)) (uF (H.row.getD j 0)) (uC (H.row.getD j 0)) (uH (H.row.getD j 0)) (uP (H.row.getD j 0)) (uM (H.row.getD j 0)))∧Below W.heap.size W w'):=fun W hW=>l4Head_any (intsAt_below Row5 hW) j hjl
   have HA:Hid (∀W,Below (wr.alloc (hb 0 0 0 0 false false)).heap.size (wr.alloc (hb 0 0 0 0 false false)) W→HeadAt W wr.heap.size 0 0 0 0 false false):=fun W hW=>headAt_below (headAt_new wr 0 0 0 0 false false) hW
   have HBA:Hid _:=BA
   have HBz:Hid _:=hB
   clear T5 Row5 R5 hB BA
   generalize uF (H.row.getD j 0)=f at *
   generalize uS (H.row.getD j 0)=s at *
   generalize uC (H.row.getD j 0)=c at *
   generalize uH (H.row.getD j 0)=g at *
   generalize uP (H.row.getD j 0)=p at *
   generalize uM (H.row.getD j 0)=m at *
   go_upto_region 7 with fail
   go_cut [5,6] from 20 to 53 (fun i q wy=>i = .int .i64 (k:Int)∧∃B,q = .pointer (some ⟨B,0,none⟩)∧HeadAt wy B s f c g p m∧Below wr.heap.size wr wy)
   case first=>
    go_region_law (first
     |(go_simp;go_at_call 100;refine (HL4.out _ HBA.out.drew).mono ?_;clear HL4;rintro e w6 ⟨rfl,b6⟩;have b7:Below (wr.alloc (hb 0 0 0 0 false false)).heap.size (wr.alloc (hb 0 0 0 0 false false)) w6:=⟨b6.os,b6.tape,b6.output,b6.size,b6.block⟩;have TA:=HA.out w6 b7;obtain⟨t0',t1',t2',t3',t4',t5',tf⟩:=headAt_cells TA;have f0:=tf 0;have f1:=tf 1;have f2:=tf 2;have f3:=tf 3;have f4:=tf 4;have f5:=tf 5;have HEnd:Hid _:=And.intro (six_set TA s f c g p m) (six_below (HBA.out.trans (b7.mono HBA.out.size)) (Nat.le_refl wr.heap.size) s f c g p m);clear b6 b7 TA tf)
     |(go_simp;go_at_call 100;refine (HL4.out _ (Below.refl _ _).drew).mono ?_;clear HL4;rintro e w6 ⟨rfl,b6⟩;have b7:Below wr.heap.size wr w6:=⟨b6.os,b6.tape,b6.output,b6.size,b6.block⟩;have HEnd:Hid _:=And.intro (headAt_new w6 s f c g p m) (b7.alloc b7.size (hb s f c g p m));clear b6 b7))
    all_goals (go_wp2_with fail)
    all_goals go_meet
    all_goals exact⟨rfl,_,rfl,HEnd.out.1,HEnd.out.2⟩
   obtain⟨rfl,B,rfl,hHd,hBy⟩:=hcut
   have HHd:Hid _:=hHd
   have HB7:Hid (Below w1.heap.size w1 wc):=HBz.out.trans (hBy.mono HBz.out.size)
   clear z0 z1 z2 z3 z4 z5 z6 z7 z8 z2' x0 x0' HL4 HA HBA hHd hBy HBz
   go_wp2_with fail
   go_loopw [7] (fun q wr=>∃i:Nat,i≤cn∧q = .int .i64 (i:Int)∧(∀l,l<i→wordIn H ps (H.row.getD (j+1+l) 0)=true)∧Below wc.heap.size wc wr) (fun q _=>cn-(intOf q).toNat)
   case atStart=>exact⟨0,Nat.zero_le _,rfl,fun l hl=>by omega,Below.refl _ _⟩
   case round=>
    obtain⟨i,hi,rfl,hal,hB2⟩:=hrel
    have T6:=headAt_below HHd.out hB2
    have HB8:Hid (Below w1.heap.size w1 wr):=HB7.out.trans (hB2.mono HB7.out.size)
    have HBwc:Hid _:=hB2
    obtain⟨t0',t1',t2',t3',t4',t5',_⟩:=headAt_cells T6
    clear T6 hB2
    by_cases hil:i<cn
    ·have hil':(i:Int)<(cn:Int):=by omega
     go_wp2_with fail
     refine (HLC.out _).mono ?_
     rintro e w4 ⟨rfl,b4⟩
     have B9:Below w1.heap.size w1 w4:=HB8.out.trans (b4.mono HB8.out.size)
     have B10:=b4
     clear t0' t1' t2' t3' t4' t5' b4
     have T7:=nine_below HT1.out B9
     have H7:=hpAt_below HH1.out B9
     have O7:=own_below HO1.out B9
     go_upto_region 11 with fail
     obtain⟨⟨z0,z1,z2,z3,z4⟩,⟨z5,z6,z7,z8⟩⟩:=nine_grow T7
     obtain⟨rb,ro,erb,hrb,y0⟩:=ints_cell H7.1 (k:=j+1+i) (by omega)
     obtain⟨lb',lo',elb,hlb',y1⟩:=ints_cell (own_ints O7) hlt
     have elb1:lb'=lb:=by injection elb with e;injection e with e1 e2;exact e1.symm
     have elb2:lo'=lo:=by injection elb with e;injection e with e1 e2;exact e2.symm
     subst elb1 elb2
     subst erb
     rw[HJ.out]at y1
     have Y0:=cell_grow y0
     have Y1:=cell_grow y1
     have HWD:Hid (∀x:Ext w4.heap.size w4,Calls Tryz.prog 125 #[hpv H (.slice (some ⟨rb,ro,none⟩) H.row.length c1) (.slice a2 H.roots.length c2) (.slice a3 H.mourned.length c3) (.slice a4 H.seen.length c4),.slice (some ⟨lb',lo',none⟩) ps.length pc,.int .i64 (H.row.getD (j+1+i) 0)] x.to fun e w''=>e = .returned (.bool (wordIn H ps (H.row.getD (j+1+i) 0)))∧∃y:Ext w4.heap.size w4,w''=y.to):=fun x=>calls_grow (Nat.le_refl _) (l9Word_any (hpAt_below H7 x.below) (intsAt_below (own_ints O7) x.below) (by omega) HPL.out _)
     have HB9:Hid _:=B9
     clear T7 H7 O7 y0 y1 B9
     obtain⟨wv,hwv⟩:∃wv,wordIn H ps (H.row.getD (j+1+i) 0)=wv:=⟨_,rfl⟩
     rw[hwv]at HWD
     have HWV:Hid _:=hwv
     clear hwv
     obtain⟨yy,hyy⟩:∃yy,H.row.getD (j+1+i) 0=yy:=⟨_,rfl⟩
     rw[hyy]at HWD HWV Y0
     have HYY:Hid _:=hyy
     clear hyy
     have i1:((j:Int)+1+(i:Int)).toNat=j+1+i:=by omega
     have i2:(0:Int)≤(j:Int)+1+(i:Int):=by omega
     have i3:(j:Int)+1+(i:Int)<(H.row.length:Int):=by omega
     haveI:=ext_any w4
     refine region_grow (n:=w4.heap.size) (by kernel_rfl) (by kernel_rfl) ?_
     repeat (go_big_quiet_step ((go_at_call 125;exact HWD.out _)))
     refine wpQuiet_nil ?_
     intro _ hw'
     obtain⟨x,rfl⟩:=hw'
     have HBx:Hid (Below w1.heap.size w1 x.to):=HB9.out.trans (x.below.mono HB9.out.size)
     have HBy:Hid (Below wc.heap.size wc x.to):=(HBwc.out.trans (B10.mono HBwc.out.size)).trans (x.below.mono ((HBwc.out.trans (B10.mono HBwc.out.size)).size))
     clear z0 z1 z2 z3 z4 z5 z6 z7 z8 Y0 Y1 HWD B10
     generalize x.to=W at *
     clear x this
     cases wv with
     |false=>
      have HF:Hid (RV=false):=by
       show RV=false
       rw[←HRV.out]
       have:slotsOk H ps=false:=all_no hlt (by
        rw[HJ.out]
        exact all_no (k:=i) (by rw[HSL.out];exact hil) (by rw[HSG.out i hil,HYY.out];exact HWV.out))
       rw[this];rfl
      have HBE:Hid _:=HB1.out.trans (HBx.out.mono HB1.out.size)
      clear hal hall HWV
      go_wp2
      go_ret
      exact⟨by rw[HF.out];rfl,HBE.out⟩
     |true=>
      have HV:Hid (∀l,l<i+1→wordIn H ps (H.row.getD (j+1+l) 0)=true):=by
       intro l hl
       by_cases e:l=i
       ·rw[e,HYY.out];exact HWV.out
       ·exact hal l (by omega)
      clear hal hall HWV
      go_wp2
      exact⟨⟨i+1,by omega,by go_num,HV,HBy.out⟩,by simp[intOf];omega⟩
    ·have hil':¬(i:Int)<(cn:Int):=by omega
     have HV:Hid (∀l,l<k+1→(slotsOf H (ps.getD l 0)).all (wordIn H ps)=true):=by
      intro l hl
      by_cases e:l=k
      ·rw[e,HJ.out]
       exact all_yes (fun q hq=>by rw[HSL.out]at hq;rw[HSG.out q hq];exact hal q (by omega))
      ·exact hall l (by omega)
     clear hal hall
     go_wp2_with fail
     refine (HLC.out _).mono ?_
     rintro e w4 ⟨rfl,b4⟩
     have HB9:Hid (Below w1.heap.size w1 w4):=HB8.out.trans (b4.mono HB8.out.size)
     clear t0' t1' t2' t3' t4' t5' b4
     go_wp2
     exact⟨⟨k+1,by omega,by go_num,HV,HB9.out⟩,by simp[intOf];omega⟩
  ·have hlt':¬(k:Int)<(ps.length:Int):=by omega
   have HSO:Hid (slotsOk H ps=true):=all_yes (fun j hj=>hall j (by omega))
   have HNO:Hid _:=notes_of HPC.out HSO.out
   have HB2:Hid _:=hB
   clear hall hB
   go_wp2_with fail
   go_loopw [8] (fun p wr=>∃k:Nat,k≤ps.length∧p = .int .i64 (k:Int)∧(∀j,j<k→endsL H (ps.length+1) (ps.getD j 0)=true)∧Below w1.heap.size w1 wr) (fun p _=>ps.length-(intOf p).toNat)
   case atStart=>exact⟨0,Nat.zero_le _,rfl,fun j hj=>by omega,HB2.out⟩
   case round=>
    obtain⟨k,hk,rfl,hall,hB⟩:=hrel
    have HBr:Hid _:=hB
    by_cases hlt:k<ps.length
    ·have hlt':(k:Int)<(ps.length:Int):=by omega
     have H7:=hpAt_below HH1.out hB
     have O7:=own_below HO1.out hB
     obtain⟨⟨z0,z1,z2,z3,z4⟩,⟨z5,z6,z7,z8⟩⟩:=nine_grow (nine_below HT1.out hB)
     obtain⟨lb,lo,ev,hlb,y1⟩:=ints_cell (own_ints O7) hlt
     subst ev
     have Y1:=cell_grow y1
     have hmem:ps.getD k 0 ∈ ps:=by rw[List.getD_eq_getElem?_getD,List.getElem?_eq_getElem hlt];exact List.getElem_mem hlt
     have HWD:Hid (∀x:Ext wr.heap.size wr,Calls Tryz.prog 126 #[hpv H (.slice a1 H.row.length c1) (.slice a2 H.roots.length c2) (.slice a3 H.mourned.length c3) (.slice a4 H.seen.length c4),.int .i64 (ps.getD k 0),.int .i64 (ps.length:Int)] x.to fun e w''=>e = .returned (.bool (endsL H (ps.length+1) (ps.getD k 0)))∧∃y:Ext wr.heap.size wr,w''=y.to):=fun x=>calls_grow (Nat.le_refl _) (l9Ends_any (hpAt_below H7 x.below) (by omega) HPL.out HNO.out _ hmem _ (by omega))
     obtain⟨wv,hwv⟩:∃wv,endsL H (ps.length+1) (ps.getD k 0)=wv:=⟨_,rfl⟩
     rw[hwv]at HWD
     have HWV:Hid _:=hwv
     clear H7 O7 y1 hB hmem hwv
     obtain⟨yy,hyy⟩:∃yy,ps.getD k 0=yy:=⟨_,rfl⟩
     rw[hyy]at HWD HWV Y1
     have HYY:Hid _:=hyy
     clear hyy
     go_upto_region 16 with fail
     haveI:=ext_any wr
     refine region_grow (n:=wr.heap.size) (by kernel_rfl) (by kernel_rfl) ?_
     repeat (go_big_quiet_step ((go_at_call 126;exact HWD.out _)))
     refine wpQuiet_nil ?_
     intro _ hw'
     obtain⟨x,rfl⟩:=hw'
     have HBx:Hid (Below w1.heap.size w1 x.to):=HBr.out.trans (x.below.mono HBr.out.size)
     clear z0 z1 z2 z3 z4 z5 z6 z7 z8 HWD
     generalize x.to=W at *
     clear x this
     cases wv with
     |false=>
      have HF:Hid (RV=false):=by
       show RV=false
       rw[←HRV.out]
       have:endsOk H ps=false:=all_no hlt (by rw[HYY.out];exact HWV.out)
       rw[this];simp
      have HBE:Hid _:=HB1.out.trans (HBx.out.mono HB1.out.size)
      clear hall HWV
      go_wp2
      go_ret
      exact⟨by rw[HF.out];rfl,HBE.out⟩
     |true=>
      have HV:Hid (∀l,l<k+1→endsL H (ps.length+1) (ps.getD l 0)=true):=by
       intro l hl
       by_cases e:l=k
       ·rw[e,HYY.out];exact HWV.out
       ·exact hall l (by omega)
      clear hall HWV
      go_wp2
      exact⟨⟨k+1,by omega,by go_num,HV,HBx.out⟩,by simp[intOf];omega⟩
    ·have hlt':¬(k:Int)<(ps.length:Int):=by omega
     have HEO:Hid (endsOk H ps=true):=all_yes (fun j hj=>hall j (by omega))
     clear hall hB HB2
     go_wp2_with fail
     go_loopw [9] (fun p wr=>∃k:Nat,k≤6∧p = .int .i64 (k:Int)∧(∀j,j<k→wordIn H ps (H.roots.getD j 0)=true)∧Below w1.heap.size w1 wr) (fun p _=>6-(intOf p).toNat)
     case atStart=>exact⟨0,Nat.zero_le _,rfl,fun j hj=>by omega,HBr.out⟩
     case round=>
      obtain⟨k,hk,rfl,hall,hB⟩:=hrel
      clear HBr
      have HBr:Hid _:=hB
      by_cases hlt:k<6
      ·have hlt':(k:Int)<6:=by omega
       have H7:=hpAt_below HH1.out hB
       have O7:=own_below HO1.out hB
       obtain⟨⟨z0,z1,z2,z3,z4⟩,⟨z5,z6,z7,z8⟩⟩:=nine_grow (nine_below HT1.out hB)
       obtain⟨rb,ro,ev,hrb,y1⟩:=ints_cell H7.2.1 (k:=k) (by rw[HR6.out];exact hlt)
       subst ev
       have Y1:=cell_grow y1
       have HWD:Hid (∀x:Ext wr.heap.size wr,Calls Tryz.prog 125 #[hpv H (.slice a1 H.row.length c1) (.slice (some ⟨rb,ro,none⟩) H.roots.length c2) (.slice a3 H.mourned.length c3) (.slice a4 H.seen.length c4),.slice pa ps.length pc,.int .i64 (H.roots.getD k 0)] x.to fun e w''=>e = .returned (.bool (wordIn H ps (H.roots.getD k 0)))∧∃y:Ext wr.heap.size wr,w''=y.to):=fun x=>calls_grow (Nat.le_refl _) (l9Word_any (hpAt_below H7 x.below) (intsAt_below (own_ints O7) x.below) (by omega) HPL.out _)
       obtain⟨wv,hwv⟩:∃wv,wordIn H ps (H.roots.getD k 0)=wv:=⟨_,rfl⟩
       rw[hwv]at HWD
       have HWV:Hid _:=hwv
       have kl:(k:Int)<(H.roots.length:Int):=by have:=HR6.out;omega
       have kl':k<H.roots.length:=by have:=HR6.out;omega
       clear H7 O7 y1 hB hwv
       obtain⟨yy,hyy⟩:∃yy,H.roots.getD k 0=yy:=⟨_,rfl⟩
       rw[hyy]at HWD HWV Y1
       have HYY:Hid _:=hyy
       clear hyy
       go_upto_region 21 with fail
       haveI:=ext_any wr
       refine region_grow (n:=wr.heap.size) (by kernel_rfl) (by kernel_rfl) ?_
       repeat (go_big_quiet_step ((go_at_call 125;exact HWD.out _)))
       refine wpQuiet_nil ?_
       intro _ hw'
       obtain⟨x,rfl⟩:=hw'
       have HBx:Hid (Below w1.heap.size w1 x.to):=HBr.out.trans (x.below.mono HBr.out.size)
       clear z0 z1 z2 z3 z4 z5 z6 z7 z8 HWD
       generalize x.to=W at *
       clear x this
       cases wv with
       |false=>
        have HF:Hid (RV=false):=by
         show RV=false
         rw[←HRV.out]
         have:H.roots.all (wordIn H ps)=false:=all_no (k:=k) kl' (by rw[HYY.out];exact HWV.out)
         rw[this];simp
        have HBE:Hid _:=HB1.out.trans (HBx.out.mono HB1.out.size)
        clear hall HWV
        go_wp2
        go_ret
        exact⟨by rw[HF.out];rfl,HBE.out⟩
       |true=>
        have HV:Hid (∀l,l<k+1→wordIn H ps (H.roots.getD l 0)=true):=by
         intro l hl
         by_cases e:l=k
         ·rw[e,HYY.out];exact HWV.out
         ·exact hall l (by omega)
        clear hall HWV
        go_wp2
        exact⟨⟨k+1,by omega,by go_num,HV,HBx.out⟩,by simp[intOf];omega⟩
      ·have hlt':¬(k:Int)<6:=by omega
       have HRO:Hid (H.roots.all (wordIn H ps)=true):=all_yes (fun j hj=>hall j (by rw[HR6.out]at hj;omega))
       clear hall hB
       go_wp2_with fail
       go_loopw [10] (fun p wr=>∃k:Nat,k≤H.mourned.length∧p = .int .i64 (k:Int)∧(∀j,j<k→(isA (H.mourned.getD j 0)&&wordIn H ps (H.mourned.getD j 0))=true)∧Below w1.heap.size w1 wr) (fun p _=>H.mourned.length-(intOf p).toNat)
       case atStart=>exact⟨0,Nat.zero_le _,rfl,fun j hj=>by omega,HBr.out⟩
       case round=>
        obtain⟨k,hk,rfl,hall,hB⟩:=hrel
        clear HBr
        have HBr:Hid _:=hB
        obtain⟨⟨y0,y1,y2,y3,y4⟩,⟨y5,y6,y7,y8⟩,_⟩:=nine_cells (nine_below HT1.out hB)
        by_cases hlt:k<H.mourned.length
        ·have hlt':(k:Int)<(H.mourned.length:Int):=by omega
         have H7:=hpAt_below HH1.out hB
         have O7:=own_below HO1.out hB
         obtain⟨rb,ro,ev,hrb,x1⟩:=ints_cell H7.2.2.1 (k:=k) hlt
         subst ev
         have SA:=sAddrOf_any (H.mourned.getD k 0)
         obtain⟨⟨z0,z1,z2,z3,z4⟩,⟨z5,z6,z7,z8⟩⟩:=nine_grow (nine_below HT1.out hB)
         have Y1:=cell_grow x1
         have HWD:Hid (∀x:Ext wr.heap.size wr,Calls Tryz.prog 125 #[hpv H (.slice a1 H.row.length c1) (.slice a2 H.roots.length c2) (.slice (some ⟨rb,ro,none⟩) H.mourned.length c3) (.slice a4 H.seen.length c4),.slice pa ps.length pc,.int .i64 (H.mourned.getD k 0)] x.to fun e w''=>e = .returned (.bool (wordIn H ps (H.mourned.getD k 0)))∧∃y:Ext wr.heap.size wr,w''=y.to):=fun x=>calls_grow (Nat.le_refl _) (l9Word_any (hpAt_below H7 x.below) (intsAt_below (own_ints O7) x.below) (by omega) HPL.out _)
         have HG:Hid _:=And.intro z0 (And.intro z1 (And.intro z2 (And.intro z3 (And.intro z4 (And.intro z5 (And.intro z6 (And.intro z7 (And.intro z8 Y1))))))))
         clear H7 O7 hB z0 z1 z2 z3 z4 z5 z6 z7 z8 Y1
         obtain⟨wv,hwv⟩:∃wv,wordIn H ps (H.mourned.getD k 0)=wv:=⟨_,rfl⟩
         rw[hwv]at HWD
         have HWV:Hid _:=hwv
         obtain⟨iv,hiv⟩:∃iv,isA (H.mourned.getD k 0)=iv:=⟨_,rfl⟩
         rw[hiv]at SA
         have HIV:Hid _:=hiv
         clear hwv hiv
         obtain⟨yy,hyy⟩:∃yy,H.mourned.getD k 0=yy:=⟨_,rfl⟩
         rw[hyy]at HWD HWV HIV SA HG x1
         have HYY:Hid _:=hyy
         clear hyy
         generalize av yy=ay at *
         go_upto_region 27 with (go_at_call 97;refine (SA _).mono ?_;clear SA;rintro e w3 ⟨rfl,hw3⟩;rw[hw3];clear hw3 w3)
         obtain⟨z0,z1,z2,z3,z4,z5,z6,z7,z8,Y1⟩:=HG.out
         clear HG y0 y1 y2 y3 y4 y5 y6 y7 y8 x1
         cases iv with
         |false=>
          have HF:Hid (RV=false):=by
           show RV=false
           rw[←HRV.out]
           have:mournOk H ps=false:=all_no (k:=k) hlt (by rw[HYY.out,HIV.out];rfl)
           rw[this];simp
          have HBE:Hid _:=HB1.out.trans (HBr.out.mono HB1.out.size)
          clear hall HWV HIV
          haveI:=ext_any wr
          refine region_grow (n:=wr.heap.size) (by kernel_rfl) (by kernel_rfl) ?_
          repeat (go_big_quiet_step ((go_at_call 125;exact HWD.out _)))
          refine wpQuiet_nil ?_
          intro _ hw'
          obtain⟨x,rfl⟩:=hw'
          have HBx:Hid (Below w1.heap.size w1 x.to):=HBr.out.trans (x.below.mono HBr.out.size)
          clear z0 z1 z2 z3 z4 z5 z6 z7 z8 HWD
          generalize x.to=W at *
          clear x this
          have HBE2:Hid _:=HB1.out.trans (HBx.out.mono HB1.out.size)
          go_wp2
          go_ret
          exact⟨by rw[HF.out];rfl,HBE2.out⟩
         |true=>
          haveI:=ext_any wr
          refine region_grow (n:=wr.heap.size) (by kernel_rfl) (by kernel_rfl) ?_
          repeat (go_big_quiet_step ((go_at_call 125;exact HWD.out _)))
          refine wpQuiet_nil ?_
          intro _ hw'
          obtain⟨x,rfl⟩:=hw'
          have HBx:Hid (Below w1.heap.size w1 x.to):=HBr.out.trans (x.below.mono HBr.out.size)
          clear z0 z1 z2 z3 z4 z5 z6 z7 z8 HWD
          generalize x.to=W at *
          clear x this
          cases wv with
          |false=>
           have HF:Hid (RV=false):=by
            show RV=false
            rw[←HRV.out]
            have:mournOk H ps=false:=all_no (k:=k) hlt (by rw[HYY.out,HIV.out,HWV.out];rfl)
            rw[this];simp
           have HBE:Hid _:=HB1.out.trans (HBx.out.mono HB1.out.size)
           clear hall HWV HIV
           go_wp2
           go_ret
           exact⟨by rw[HF.out];rfl,HBE.out⟩
          |true=>
           have HV:Hid (∀l,l<k+1→(isA (H.mourned.getD l 0)&&wordIn H ps (H.mourned.getD l 0))=true):=by
            intro l hl
            by_cases e:l=k
            ·rw[e,HYY.out,HIV.out,HWV.out];rfl
            ·exact hall l (by omega)
           clear hall HWV HIV
           go_wp2
           exact⟨⟨k+1,by omega,by go_num,HV,HBx.out⟩,by simp[intOf];omega⟩
        ·have hlt':¬(k:Int)<(H.mourned.length:Int):=by omega
         have HF:Hid (RV=true):=by
          show RV=true
          rw[←HRV.out,HSO.out,HEO.out,HRO.out]
          exact all_yes (fun j hj=>hall j (by omega))
         have HBE:Hid _:=HB1.out.trans (HBr.out.mono HB1.out.size)
         clear hall hB
         go_wp2
         go_ret
         exact⟨by rw[HF.out];rfl,HBE.out⟩
theorem l9Right_any {w:World} {vr vo vm vs:Value} {H:Hp} (h:HpAt w vr vo vm vs H) :
    Calls Tryz.prog 94 #[hpv H vr vo vm vs] w fun e w'=>e = .returned (.bool (rightB H))∧Below w.heap.size w w':=by
 cases d:placesR H with
 |some ps=>
  have e:rightB H=(slotsOk H ps&&endsOk H ps&&H.roots.all (wordIn H ps)&&mournOk H ps):=by unfold rightB;rw[d]
  rw[e]
  exact l9Right_some h d
 |none=>
  have e:rightB H=false:=by unfold rightB;rw[d]
  rw[e]
  obtain⟨a1,c1,a2,c2,a3,c3,a4,c4,e1,e2,e3,e4⟩:=hpAt_slices h
  subst e1 e2 e3 e4
  have B0:Below w.heap.size w (w.alloc (hpb H (.slice a1 H.row.length c1) (.slice a2 H.roots.length c2) (.slice a3 H.mourned.length c3) (.slice a4 H.seen.length c4))):=(Below.refl _ _).alloc (Nat.le_refl _) _
  have PL:=l9Places_any (hpAt_below h B0)
  rw[d]at PL
  obtain⟨⟨z0,z1,z2,z3,z4⟩,⟨z5,z6,z7,z8⟩,_⟩:=nine_cells (nine_new w H (.slice a1 H.row.length c1) (.slice a2 H.roots.length c2) (.slice a3 H.mourned.length c3) (.slice a4 H.seen.length c4))
  have HB0:Hid _:=B0
  clear B0 h e d
  go_enter Tryz.func94,Tryz.ntmps94
  go_wp2_with fail
  generalize (w.alloc (hpb H (.slice a1 H.row.length c1) (.slice a2 H.roots.length c2) (.slice a3 H.mourned.length c3) (.slice a4 H.seen.length c4)))=X at *
  refine PL.mono ?_
  clear PL
  rintro e w1 ⟨vp,rfl,O1,b1⟩
  obtain⟨pa,pn,pc,rfl⟩:=ints_slice (own_ints O1)
  have HB1:Hid _:=HB0.out.trans (b1.mono HB0.out.size)
  clear O1 b1 z0 z1 z2 z3 z4 z5 z6 z7 z8
  go_wp2
  go_ret
  exact⟨rfl,HB1.out⟩
end Go.Proofs.YtkiognecebgaiaaGreatDoor.hp
