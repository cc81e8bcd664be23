/-
  Chapter 9 as the program has it: whether all notes end. Chapter 9 as the program has it: what is so of the rooms of a heap. A heap that was gone through: a heap's nine cells and its rooms' two. Chapter 10 as the specification has it: HashOf and ClassOf. What is shown is small.
-/
import Derived.Test.YtkiognecebgaiaaGreatDoorM16
import Derived.Test.YtkiognecebgaiaaGreatDoorM3
import Derived.Test.YtkiognecebgaiaaGreatDoorM5
namespace Go.Proofs.YtkiognecebgaiaaGreatDoor.hp
open Go.RowKit rows heads words walks Go.Maps
set_option maxRecDepth 100000
set_option linter.unusedVariables false
set_option linter.unusedSimpArgs false
theorem lawK:Keyed Tryz.prog 2:=int_keyed Tryz.underlying2
theorem zeroInt (w:World):(zeroValue 3).run Tryz.prog w = .ok (.int .i64 0) w:=by kernel_rfl
def mapLen (w:World) (b:Nat):Nat:=match w.heap[b]? with|some (.map es _)=>es.size|_=>0
theorem mapLen_own {w:World} {k:TypeId} {R:Value→Option (DataW Unit×List MemPlace)} {b n:Nat} {D:DataW Unit} (h:w.ownsMap Tryz.prog k R b n D):mapLen w b=Maps.size D:=by
 obtain⟨es,clock,hb,F,hs,rfl⟩:=h
 simp[mapLen,hb,Maps.size,length_sorted]
theorem grownBelH {w w':World} (h:Below w.heap.size w w') (row:Option Nat):w.grownBy w' row:=⟨h.os,h.tape,h.output,h.size,fun k hk _=>h.block k hk⟩
theorem map_below {w w':World} {k:TypeId} {R:Value→Option (DataW Unit×List MemPlace)} {b n:Nat} {D:DataW Unit} (h:w.ownsMap Tryz.prog k R b n D) (hb:Below w.heap.size w w'):w'.ownsMap Tryz.prog k R b n D:=World.ownsMap.kept h (grownBelH hb none) (by simp)
theorem map_pdSet {w:World} {k:TypeId} {R:Value→Option (DataW Unit×List MemPlace)} {b n:Nat} {D:DataW Unit} (h:w.ownsMap Tryz.prog k R b n D) {q:Nat} (hq:b≠q) (d:Pd):(pdSet w q d).ownsMap Tryz.prog k R b n D:=
 World.ownsMap.setCell (World.ownsMap.setCell (World.ownsMap.setCell (World.ownsMap.setCell (World.ownsMap.setCell (World.ownsMap.setCell (World.ownsMap.setCell (World.ownsMap.setCell h hq _) hq _) hq _) hq _) hq _) hq _) hq _) hq _
theorem mapLen_pdSet {w:World} {b q:Nat} (hq:b≠q) (d:Pd):mapLen (pdSet w q d) b=mapLen w b:=by
 have e:(pdSet w q d).heap[b]? = w.heap[b]? := by
  unfold pdSet
  iterate 8 rw[Below.heap_setCell _ _ _ _ hq]
 unfold mapLen
 rw[e]
structure NoteP (ds:List Pd) (sl:Pd→List Int) (nt:Int→Bool) (nx:Int→Int):Prop where
 place:∀i,i<ds.length→I64 (ds.getD i pdD).pl
 isNote:∀i,i<ds.length→((ds.getD i pdD).f==7)=nt (ds.getD i pdD).pl
 some':∀i,i<ds.length→(ds.getD i pdD).f=7→0<(sl (ds.getD i pdD)).length
 next:∀i,i<ds.length→(ds.getD i pdD).f=7→nx (ds.getD i pdD).pl=av ((sl (ds.getD i pdD)).getD 0 0)
 led:∀i,i<ds.length→(ds.getD i pdD).f=7→ledB ds ((sl (ds.getD i pdD)).getD 0 0)=true
theorem getD_num {xs:List Int} (h:AllI xs) (hx:0<xs.length):I64 (xs.getD 0 0):=by
 refine h _ ?_
 rw[List.getD_eq_getElem?_getD,List.getElem?_eq_getElem hx]
 exact List.getElem_mem hx
set_option maxHeartbeats 16000000 in
theorem notesEnd_any {w:World} {up:Int} {v:Value} {ds:List Pd} {sl:Pd→List Int} {nt:Int→Bool} {nx:Int→Int} {R:Bool} (h:PdsAt w v ds) (hs:SlicesP ds) (hr:RiseP ds) (hl:ds.length≤1048576) (hS:SlotsP w ds sl) (hN:NoteP ds sl nt nx)
    (hR:R=true↔∀i,i<ds.length→Fins nt nx (ds.getD i pdD).pl) :
    Calls Tryz.prog 153 #[rmv up v] w fun e w'=>e = .returned (.bool R)∧Below w.heap.size w w':=by
 have hmm:= @run_makeMap Tryz.prog
 obtain⟨a,cap,rfl⟩:=pds_slice h
 have HP:Hid _:=h
 have HSL:Hid _:=hs
 have HR:Hid _:=hR
 have B0:Below w.heap.size w (w.alloc (rmb up (.slice a ds.length cap))):=(Below.refl _ _).alloc (Nat.le_refl _) _
 have HALL:Hid (∀V,Below (w.alloc (rmb up (.slice a ds.length cap))).heap.size (w.alloc (rmb up (.slice a ds.length cap))) V→(V.cell? ⟨w.heap.size,0,none⟩=some (.int .i64 up)∧V.cell? ⟨w.heap.size,1,none⟩=some (.slice a ds.length cap))∧Below w.heap.size w V):=by
  intro V hV
  have q0:V.heap[w.heap.size]? = some (rmb up (.slice a ds.length cap)):=(hV.block _ (by simp)).trans (heap_alloc_new w _)
  exact⟨(rmb_cells q0).1,B0.trans (hV.mono B0.size)⟩
 have HLB:Hid (∀V,Below w.heap.size w V→∀x,I64 x→Calls Tryz.prog 181 #[rmv up (.slice a ds.length cap),.int .i64 x] V fun e w'=>(ledB ds x=false→e = .returned (.tuple #[pdv pdD,.bool false]))∧(ledB ds x=true→∃i,i<ds.length∧(ds.getD i pdD).pl=av x∧e = .returned (.tuple #[pdv (ds.getD i pdD),.bool true]))∧Below V.heap.size V w'):=fun V hV x hx=>ledBy_any (pdsAt_below HP.out hV) hs hr hl x hx.1 hx.2
 have HSP:Hid _:=hS
 have HNP:Hid _:=hN
 obtain⟨L,hL⟩:∃L,ds.map (fun d=>d.pl)=L:=⟨_,rfl⟩
 have HLm:Hid (∀i,i<ds.length→(ds.getD i pdD).pl ∈ L):=fun i hi=>by rw[←hL];exact List.mem_map.2 ⟨_,mem_getDP hi,rfl⟩
 have HLl:Hid (L.length=ds.length):=by show _=_;rw[←hL];simp
 clear h hs hr B0 hS hN hR hL
 go_enter Tryz.func153,Tryz.ntmps153
 go_upto_region 1 with fail
 generalize w.alloc (rmb up (.slice a ds.length cap))=X at *
 have HMO:Hid _:=World.ownsMap_made X Tryz.prog 2 (plainElem (H:=Unit) Tryz.prog 3)
 have BX:Below X.heap.size X (X.alloc (.map #[] 0)):=(Below.refl _ _).alloc (Nat.le_refl _) _
 have HBX:Hid _:=BX
 obtain⟨⟨z0,z1⟩,_⟩:=HALL.out _ BX
 clear BX
 go_wp2_with fail
 clear z0 z1
 go_loopw [4,5,6,7,12] (fun _ _ _ _ q wr=>∃(k n:Nat) (D:DataW Unit),k≤ds.length∧q = .int .i64 (k:Int)∧wr.ownsMap Tryz.prog 2 (plainElem Tryz.prog 3) X.heap.size n D∧NE nt nx L k D∧n+cntN L D≤ds.length∧(∀m,m<k→Fins nt nx (ds.getD m pdD).pl)∧Below X.heap.size X wr) (fun _ _ _ _ q _=>ds.length-(intOf q).toNat)
 case atStart=>exact⟨0,0,.map [],Nat.zero_le _,rfl,HMO.out,ne_start,by rw[cntN_start,HLl.out];omega,fun m hm=>by omega,HBX.out⟩
 case round=>
  obtain⟨k,n,D,hk,rfl,hM,hE,hn,hfin,hB⟩:=hrel
  clear HMO HBX
  have HB:Hid _:=hB
  have HM:Hid _:=hM
  have HE:Hid _:=hE
  have HN:Hid _:=hn
  have HFI:Hid _:=hfin
  obtain⟨⟨z0,z1⟩,bw⟩:=HALL.out wr hB
  have sr:=hB.size
  have sm:=hM.lt
  clear hM hE hn hfin hB
  by_cases hlt:k<ds.length
  ·obtain⟨b,off,ea,hbl,k0,k1,k2,k3,k4,k5,k6,k7⟩:=pds_cell (pdsAt_below HP.out bw) hlt
   subst ea
   obtain⟨sa,sn,sc,hsv⟩:=HSL.out _ (mem_getDP hlt)
   have hlt':(k:Int)<(ds.length:Int):=by omega
   obtain⟨d,hd⟩:∃d,ds.getD k pdD=d:=⟨_,rfl⟩
   have HD:Hid _:=hd
   rw[hd]at k0 k1 k2 k3 k4 k5 k6 k7 hsv
   obtain⟨ds',df,dc,dh,dp,dm,du,dl⟩:=d
   simp only at k0 k1 k2 k3 k4 k5 k6 k7 hsv
   subst hsv
   clear hd bw z0 z1
   go_wp2_with fail
   have HQ:Hid _:=heap_alloc_new wr (pdb ⟨ds',df,dc,dh,dp,dm,.slice sa sn sc,dl⟩)
   have BY:Below wr.heap.size wr (wr.alloc (pdb ⟨ds',df,dc,dh,dp,dm,.slice sa sn sc,dl⟩)):=(Below.refl _ _).alloc (Nat.le_refl _) _
   have HMY:Hid _:=map_below HM.out BY
   have HBY:Hid _:=HB.out.trans (BY.mono HB.out.size)
   have sY:wr.heap.size<(wr.alloc (pdb ⟨ds',df,dc,dh,dp,dm,.slice sa sn sc,dl⟩)).heap.size:=by simp
   clear BY HM HB k0 k1 k2 k3 k4 k5 k6 k7
   generalize wr.alloc (pdb ⟨ds',df,dc,dh,dp,dm,.slice sa sn sc,dl⟩)=Y at *
   generalize wr.heap.size=pb at *
   go_loopw [6,7] (fun _ _ wi=>∃(i n:Nat) (D:DataW Unit),i<ds.length∧wi.heap[pb]? = some (pdb (ds.getD i pdD))∧wi.ownsMap Tryz.prog 2 (plainElem Tryz.prog 3) X.heap.size n D∧NEi nt nx L k D (ds.getD k pdD).pl (ds.getD i pdD).pl∧n+cntN L D≤ds.length∧Below X.heap.size X wi∧pb<wi.heap.size) (fun _ _ wi=>ds.length+1-mapLen wi X.heap.size)
   case atStart=>exact⟨k,n,D,hlt,by rw[HD.out];exact HQ.out,HMY.out,HE.out.into _,HN.out,HBY.out,sY⟩
   case round=>
    obtain⟨i,n,D,hi,hq,hM,hE,hn,hB,hpb⟩:=hrel
    clear HQ HMY HBY HE HN HD
    have HB:Hid _:=hB
    have HE:Hid _:=hE
    have HM:Hid _:=hM
    have HQ:Hid _:=hq
    obtain⟨sa',sn',sc',hsv⟩:=HSL.out _ (mem_getDP hi)
    have hpl:=HNP.out.place i hi
    have hnt:=HNP.out.isNote i hi
    have HSO:Hid _:=HNP.out.some' i hi
    have HNX:Hid _:=HNP.out.next i hi
    have HLD:Hid _:=HNP.out.led i hi
    have HLI:Hid _:=HLm.out i hi
    have HSC:Hid _:=fun V hV=>HSP.out.call V hV i hi
    have HSN:Hid _:=HSP.out.num i hi
    obtain⟨d2,hd2⟩:∃d2,ds.getD i pdD=d2:=⟨_,rfl⟩
    simp only[hd2]at hq hsv hpl hnt HE HSO HNX HLD HLI HSC HSN HQ
    obtain⟨es',ef,ec,eh,ep,em,eu,el⟩:=d2
    simp only at hsv hpl hnt HE HSO HNX HLD HLI HSC
    subst hsv
    obtain⟨⟨y0,y1,y2,y3,y4,y5,y6,y7⟩,_⟩:=pdb_cells hq
    simp only at y0 y1 y2 y3 y4 y5 y6 y7
    have NA:=isNote_any es' ef ec eh ep em (.slice sa' sn' sc') wr
    have BZ:Below wr.heap.size wr (wr.alloc (cb es' ef ec eh ep em (.slice sa' sn' sc'))):=(Below.refl _ _).alloc (Nat.le_refl _) _
    have HMZ:Hid _:=map_below hM BZ
    have HBZ:Hid (Below X.heap.size X (wr.alloc (cb es' ef ec eh ep em (.slice sa' sn' sc')))):=hB.trans (BZ.mono hB.size)
    have HQZ:Hid _:=(BZ.block pb hpb).trans hq
    have sz:=hB.size
    have sZ:wr.heap.size<(wr.alloc (cb es' ef ec eh ep em (.slice sa' sn' sc'))).heap.size:=by simp
    have HML:Hid _:=mapLen_own hM
    clear hq hM hE hB BZ hd2
    cases h7:(ef==7)
    ·rw[h7]at NA
     have HST:Hid _:=HE.out.stop (fins_stop (by rw[←hnt];exact h7))
     clear h7 hnt
     go_wp2_with (go_at_call 180;refine NA.mono ?_;clear NA;rintro e w3 ⟨rfl,hw3⟩;rw[hw3];clear hw3 w3)
     refine⟨⟨k+1,n,D,by omega,by go_num,HMZ.out,HST.out.1,hn,fun m hm => ?_,HBZ.out⟩,by simp[intOf];omega⟩
     by_cases e:m=k
     ·rw[e];exact HST.out.2
     ·exact HFI.out m (by omega)
    ·rw[h7]at NA hnt
     obtain rfl:ef=7:=by simpa using h7
     have HNT:Hid _:=hnt.symm
     clear h7 hnt y0 y1 y2 y3 y4 y5 y6 y7
     obtain⟨⟨y0,y1,y2,y3,y4,y5,y6,y7⟩,_⟩:=pdb_cells HQ.out
     simp only at y0 y1 y2 y3 y4 y5 y6 y7
     go_upto_region 6 with (go_at_call 180;refine NA.mono ?_;clear NA;rintro e w3 ⟨rfl,hw3⟩;rw[hw3];clear hw3 w3)
     clear y0 y1 y2 y3 y4 y5 y6 y7
     generalize wr.alloc (cb es' 7 ec eh ep em (.slice sa' sn' sc'))=Z at *
     obtain⟨⟨y0,y1,y2,y3,y4,y5,y6,y7⟩,_⟩:=pdb_cells HQZ.out
     simp only at y0 y1 y2 y3 y4 y5 y6 y7
     have HKY:Hid (keyOf Tryz.prog 2 (.int .i64 el)=some (kI el)):=keyOf_int_mk Tryz.underlying2 (WalkArith.wf_i64 hpl)
     obtain⟨vv,ps,hrun,hv⟩:=World.ownsMap.look_ok HMZ.out lawK Tryz.underlying234 (zeroInt Z) (plainElem_int Tryz.underlying3 (WalkArith.wf_i64 ⟨by decide,by decide⟩)) HKY.out
     obtain⟨c,rfl,hc,hwc⟩:=plainElem_int_inv Tryz.underlying3 hv
     have HC:Hid (D.atKey (kI el) (nD 0)=nD c):=congrArg Prod.fst hc
     clear hv hc hwc
     cases hh:Maps.has D (kI el)
     ·rw[hh]at hrun
      have HSTEP:Hid _:=HE.out.step HLI.out HNT.out
      have HCN:Hid _:=cntN_put HE.out.tidy HLI.out hh (nD k)
      have HSZ:Hid _:=Maps.size_put (k:=kI el) HE.out.tidy (nD k)
      rw[hh,if_neg (by decide)]at HSZ
      have hcn:=HCN.out
      have HPE:Hid (plainElem (H:=Unit) Tryz.prog 3 (.int .i64 (k:Int))=some (nD k,[])):=plainElem_int Tryz.underlying3 (WalkArith.wf_i64 ⟨by omega,by omega⟩)
      have hnm:n<9223372036854775807:=by omega
      clear hh HC
      go_upto_region 11 with (at_mapUpdate;refine wpList_mapUpdate_own _ rfl _ _ _ 234 rfl 2 3 lawK Tryz.underlying234 _ X.heap.size n _ rfl HMZ.out hnm _ _ _ rfl rfl HKY.out _ [] HPE.out ?_;intro w1 hown1 hgrow1)
      have B1:Below X.heap.size X w1:=HBZ.out.grown hgrow1 HBZ.out.size (fun j hj=>by cases hj;exact Nat.le_refl _)
      have Q1:=(hgrow1.block pb (lt_of_block HQZ.out) (fun e=>by injection e with e;omega)).trans HQZ.out
      have HM1:Hid _:=hown1
      have HW1:Hid _:=(HALL.out w1 B1).2
      obtain⟨y,hy⟩:∃y,(sl ⟨es',7,ec,eh,ep,em,.slice sa' sn' sc',el⟩).getD 0 0=y:=⟨_,rfl⟩
      have hxp:=HSO.out (by trivial)
      have hyb:I64 y:=by rw[←hy];exact getD_num HSN.out hxp
      have hyl:ledB ds y=true:=by rw[←hy];exact HLD.out (by trivial)
      have HNY:Hid (nx el=av y):=by show _=_;rw[←hy];exact HNX.out (by trivial)
      have HNT2:Hid (∀V,Below w1.heap.size w1 V→Calls Tryz.prog 182 #[cv es' 7 ec eh ep em (.slice sa' sn' sc')] V fun e w'=>e = .returned (.int .i64 y)∧Below V.heap.size V w'):=fun V hV=>by
       have:=note_any (w:=V) hxp (fun V' hV'=>HSC.out V' (HW1.out.trans ((hV.trans (hV'.mono hV.size)).mono HW1.out.size)))
       rwa [hy]at this
      have HLB2:Hid (∀V,Below w.heap.size w V→Calls Tryz.prog 181 #[rmv up (.slice (some ⟨b,off,none⟩) ds.length cap),.int .i64 y] V fun e w'=>(∃i,i<ds.length∧(ds.getD i pdD).pl=av y∧e = .returned (.tuple #[pdv (ds.getD i pdD),.bool true]))∧Below V.heap.size V w'):=fun V hV=>(HLB.out V hV y hyb).mono (fun e w' hh=>⟨hh.2.1 hyl,hh.2.2⟩)
      have s1:=B1.size
      have HG:Hid (∀(V w':World),Below V.heap.size V w'→Below w1.heap.size w1 V→(w'.cell? ⟨w.heap.size,0,none⟩=some (.int .i64 up)∧w'.cell? ⟨w.heap.size,1,none⟩=some (.slice (some ⟨b,off,none⟩) ds.length cap))∧w'.heap[pb]? = some (pdb ⟨es',7,ec,eh,ep,em,.slice sa' sn' sc',el⟩)∧Below w.heap.size w w'∧w'.ownsMap Tryz.prog 2 (plainElem Tryz.prog 3) X.heap.size (n+1) (D.put (kI el) (nD k))∧Below X.heap.size X w'∧pb<w'.heap.size):=by
       intro V w' h1 h2
       have h3:Below w1.heap.size w1 w':=h2.trans (h1.mono h2.size)
       have hX:Below X.heap.size X w':=B1.trans (h3.mono B1.size)
       obtain⟨hz,hw⟩:=HALL.out w' hX
       exact⟨hz,(h3.block pb (lt_of_block Q1)).trans Q1,hw,map_below HM1.out h3,hX,Nat.lt_of_lt_of_le (lt_of_block Q1) h3.size⟩
      obtain⟨⟨z0,z1⟩,_⟩:=HALL.out w1 B1
      clear y0 y1 y2 y3 y4 y5 y6 y7
      obtain⟨⟨y0,y1,y2,y3,y4,y5,y6,y7⟩,_⟩:=pdb_cells Q1
      simp only at y0 y1 y2 y3 y4 y5 y6 y7
      have HEND:Hid (∀(w6:World) (i2:Nat),i2<ds.length→(ds.getD i2 pdD).pl=av y→w6.heap[pb]? = some (pdb ⟨es',7,ec,eh,ep,em,.slice sa' sn' sc',el⟩)→w6.ownsMap Tryz.prog 2 (plainElem Tryz.prog 3) X.heap.size (n+1) (D.put (kI el) (nD k))→Below X.heap.size X w6→pb<w6.heap.size→(∃(i n:Nat) (D:DataW Unit),i<ds.length∧(pdSet w6 pb (ds.getD i2 pdD)).heap[pb]? = some (pdb (ds.getD i pdD))∧(pdSet w6 pb (ds.getD i2 pdD)).ownsMap Tryz.prog 2 (plainElem Tryz.prog 3) X.heap.size n D∧NEi nt nx L k D (ds.getD k pdD).pl (ds.getD i pdD).pl∧n+cntN L D≤ds.length∧Below X.heap.size X (pdSet w6 pb (ds.getD i2 pdD))∧pb<(pdSet w6 pb (ds.getD i2 pdD)).heap.size)∧ds.length+1-mapLen (pdSet w6 pb (ds.getD i2 pdD)) X.heap.size<ds.length+1-mapLen wr X.heap.size):=by
       intro w6 i2 hi2 hp2 hq6 hm6 hb6 hs6
       have hne:X.heap.size≠pb:=by omega
       refine⟨⟨i2,n+1,_,hi2,pdb_set hq6 _,map_pdSet hm6 hne _,?_,by omega,pdb_below hb6 (by omega) _,by unfold pdSet;simpa using hs6⟩,?_⟩
       ·rw[hp2,←HNY.out];exact HSTEP.out
       ·rw[mapLen_pdSet hne,mapLen_own hm6,HML.out,HSZ.out]
        have:=World.ownsMap.size_le HM.out
        omega
      clear B1 Q1 hown1 hgrow1 HNP HSP HALL HSTEP HSZ HCN hcn HSO HNX HLD HSC HSN HLB HKY HPE hrun hy hxp hyb hyl HMZ HBZ HQZ HM1 HML HQ HM HE HB
      go_region_law (first
       |(go_simp;go_at_call 182;refine Calls.mono (HNT2.out _ ⟨rfl,rfl,rfl,Nat.le_refl _,fun _ _=>rfl⟩) ?_;rintro e w5 ⟨rfl,b5⟩;obtain⟨⟨t0,t1⟩,q5,bw5,_⟩:=HG.out _ _ b5 ⟨rfl,rfl,rfl,Nat.le_refl _,fun _ _=>rfl⟩;have HB5:Hid (Below w1.heap.size w1 w5):=⟨b5.os,b5.tape,b5.output,b5.size,b5.block⟩;have HBW5:Hid _:=bw5;clear HNT2 b5 bw5 q5)
       |(go_simp;go_at_call 181;refine Calls.mono (HLB2.out _ ⟨HBW5.out.os,HBW5.out.tape,HBW5.out.output,HBW5.out.size,HBW5.out.block⟩) ?_;rintro e w6 ⟨⟨i2,hi2,hp2,rfl⟩,b6⟩;obtain⟨_,q6,_,m6,bx6,s6⟩:=HG.out w5 w6 ⟨b6.os,b6.tape,b6.output,b6.size,b6.block⟩ HB5.out;obtain⟨⟨g0,g1,g2,g3,g4,g5,g6,g7⟩,f0,f1,f2,f3,f4,f5,f6,f7⟩:=pdb_cells q6;obtain⟨sa2,sn2,sc2,hsv2⟩:=HSL.out _ (mem_getDP hi2);have HE6:Hid _:=HEND.out w6 i2 hi2 hp2 q6 m6 bx6 s6;obtain⟨d3,hd3⟩:∃d3,ds.getD i2 pdD=d3:=⟨_,rfl⟩;rw[hd3]at hsv2 HE6 ⊢; obtain⟨es3,ef3,ec3,eh3,ep3,em3,eu3,el3⟩:=d3;simp only at hsv2 g0 g1 g2 g3 g4 g5 g6 g7;subst hsv2;clear HLB2 b6 q6 m6 bx6 hp2 hd3 HEND HG))
      all_goals (go_wp2_with fail)
      all_goals exact HE6.out
     ·rw[hh]at hrun
      by_cases hck:c=k
      ·subst hck
       have HF:Hid (R=false):=by
        show _=_
        cases hRR:R
        ·rfl
        ·exact absurd (HR.out.1 hRR k hlt) (HE.out.round hh HC.out)
       have HBW:Hid _:=(HALL.out Z HBZ.out).2
       clear hh HC
       go_wp2
       go_ret
       exact⟨by rw[HF.out];rfl,HBW.out⟩
      ·have HST:Hid _:=HE.out.stop (HE.out.old hh HC.out hck)
       have hck':(c==(k:Int))=false:=by simpa using hck
       clear hh HC
       go_wp2
       refine⟨⟨k+1,n,D,by omega,by go_num,HMZ.out,HST.out.1,hn,fun m hm => ?_,HBZ.out⟩,by simp[intOf];omega⟩
       by_cases e:m=k
       ·rw[e];exact HST.out.2
       ·exact HFI.out m (by omega)
  ·have hlt':¬(k:Int)<(ds.length:Int):=by omega
   have HF:Hid (R=true):=HR.out.2 (fun i hi=>HFI.out i (by omega))
   have HBW:Hid _:=bw
   clear bw z0 z1
   go_wp2
   go_ret
   exact⟨by rw[HF.out];rfl,HBW.out⟩
end Go.Proofs.YtkiognecebgaiaaGreatDoor.hp
namespace Go.Proofs.YtkiognecebgaiaaGreatDoor.hp
open Go.RowKit rows heads words walks
set_option maxRecDepth 100000
set_option linter.unusedVariables false
set_option linter.unusedSimpArgs false
structure RoomsAt (w:World) (v:Value) (ds:List Pd) (sl:Pd→List Int):Prop where
 pds:PdsAt w v ds
 slices:SlicesP ds
 rise:RiseP ds
 len:ds.length≤1000
 slots:SlotsP w ds sl
theorem slotsP_below {w w':World} {ds:List Pd} {sl:Pd→List Int} (h:SlotsP w ds sl) (hb:Below w.heap.size w w'):SlotsP w' ds sl where
 call V hV i hi:=h.call V (hb.trans (hV.mono hb.size)) i hi
 len:=h.len
 num:=h.num
theorem RoomsAt.below {w w':World} {v:Value} {ds:List Pd} {sl:Pd→List Int} (h:RoomsAt w v ds sl) (hb:Below w.heap.size w w'):RoomsAt w' v ds sl:=⟨pdsAt_below h.pds hb,h.slices,h.rise,h.len,slotsP_below h.slots hb⟩
theorem objs_slices (a:Option Addr) (H:Hp):SlicesP (objsP a H):=by
 intro d hd
 unfold objsP at hd
 rcases List.mem_append.1 hd with hd|hd
 ·exact pdsOf_slices _ _ _ d hd
 ·exact pdsOf_slices _ _ _ d (List.mem_filter.1 hd).1
theorem objs_len {a:Option Addr} {H:Hp} (hn:numB H=true) (hr:roomB a H=true):(objsP a H).length≤1000:=by
 obtain⟨r,u,e1,e2,e3,e4⟩:=room_some hn hr
 obtain⟨half,old,top,fr,q1,q2,q3,q4,q5,q6,q7,q8,h1,h2,h3,h4⟩:=num_parts hn
 have b1:=(walkO_len (by rw[q8,q7];omega) e1).1
 have b2:=(walkO_len (by rw[q5,q6];omega) e2).1
 rw[q8,q7]at b1
 rw[q5,q6]at b2
 rw[e4,List.length_append]
 have:(keepP (pdsOf a H.row u)).length≤u.length:=by
  unfold keepP
  refine Nat.le_trans (List.length_filter_le _ _) ?_
  unfold pdsOf;rw[List.length_map];exact Nat.le_refl _
 have:(pdsOf a H.row r).length=r.length:=by unfold pdsOf;rw[List.length_map]
 omega
theorem roomsAt_of {w:World} {a:Option Addr} {c:Nat} {H:Hp} (hx:IntsAt w (.slice a H.row.length c) H.row) (hn:numB H=true) (hr:roomB a H=true) (ha:AllI H.row) {v:Value} (hv:PdsAt w v (objsP a H)):RoomsAt w v (objsP a H) (slP H.row):=by
 obtain⟨N⟩:=numN hn
 have hl:=N.ln
 have:=N.lh
 have:=N.bh
 have:=N.bo
 refine⟨hv,objs_slices a H,objs_rise hn,objs_len hn hr,?_⟩
 have hx':=hx
 obtain⟨a',c',e,_,_,_,hc⟩:=hx'
 injection e with e1 _ e3
 subst e1
 obtain⟨b,off,rfl,_⟩:=hc (by omega)
 exact slotsP_of hx (by omega) ha (objs_in hr)
theorem slP_note {a:Option Addr} {xs:List Int} {j:Nat} (hc:chunk xs j≠0) (h7:uF (xs.getD j 0)=7):j+1<xs.length∧slP xs (pdOf a xs j)=[xs.getD (j+1) 0]:=by
 have h6:uF (xs.getD j 0)≠6:=by omega
 have q:=chunk_fits hc h6
 have hj:j+1<xs.length:=by omega
 refine⟨hj,?_⟩
 unfold slP
 rw[cnP_of,if_pos h7,pdOf_pl,Int.toNat_natCast,List.drop_eq_getElem_cons hj,List.getD_eq_getElem?_getD,List.getElem?_eq_getElem hj]
 rfl
theorem hold_note {a:Option Addr} {H:Hp} {ds:List Pd} (hS:holdS ds (slP H.row)=true) {j:Nat} (hd:pdOf a H.row j ∈ ds) (hc:chunk H.row j≠0) (h7:uF (H.row.getD j 0)=7):isA (H.row.getD (j+1) 0)=true∧hasP ds (av (H.row.getD (j+1) 0))=true:=by
 have hA:=chunk_note hc h7
 refine⟨hA,?_⟩
 unfold holdS at hS
 rw[List.all_eq_true]at hS
 have:=hS _ hd
 rw[(slP_note (a:=a) hc h7).2]at this
 unfold holdL at this
 rw[List.all_cons,List.all_nil,Bool.and_true]at this
 unfold holdW at this
 rwa [if_pos hA]at this
theorem objs_notes {a:Option Addr} {H:Hp} (hr:roomB a H=true) (hS:holdS (objsP a H) (slP H.row)=true):Notes H ((objsP a H).map (·.pl)):=by
 intro p hp h7
 obtain⟨d,hd,rfl⟩:=List.mem_map.1 hp
 obtain⟨j,rfl,hc,h6⟩:=objs_in hr d hd
 rw[pdOf_pl,Int.toNat_natCast]at h7 ⊢
 obtain⟨hA,hh⟩:=hold_note hS hd hc h7
 refine⟨(slP_note (a:=a) hc h7).1,hA,?_⟩
 unfold hasP at hh
 rw[List.any_eq_true]at hh
 obtain⟨d,hd,e⟩:=hh
 exact List.mem_map.2 ⟨d,hd,by simpa using e⟩
theorem noteP_of {a:Option Addr} {H:Hp} (hn:numB H=true) (hr:roomB a H=true) (hS:holdS (objsP a H) (slP H.row)=true):NoteP (objsP a H) (slP H.row) (ntH H) (nxH H):=by
 obtain⟨N⟩:=numN hn
 have hl:=N.ln
 have:=N.bh
 have:=N.bo
 have key:∀i,i<(objsP a H).length→∃j:Nat,(objsP a H).getD i pdD=pdOf a H.row j∧chunk H.row j≠0∧pdOf a H.row j ∈ objsP a H∧j<H.row.length:=by
  intro i hi
  obtain⟨j,e,hc,h6⟩:=objs_in hr _ (mem_getDP hi)
  have:=chunk_fits hc h6
  exact⟨j,e,hc,by rw[←e];exact mem_getDP hi,by omega⟩
 refine⟨fun i hi => ?_,fun i hi => ?_,fun i hi h7 => ?_,fun i hi h7 => ?_,fun i hi h7 => ?_⟩
 all_goals obtain⟨j,e,hc,hm,hj⟩:=key i hi
 all_goals rw[e]
 ·rw[pdOf_pl];unfold I64;omega
 ·unfold ntH;rw[pdOf_pl,Int.toNat_natCast];rfl
 ·rw[e]at h7;rw[(slP_note (a:=a) hc h7).2];exact Nat.zero_lt_one
 ·rw[e]at h7;rw[(slP_note (a:=a) hc h7).2,pdOf_pl];unfold nxH;rw[Int.toNat_natCast];rfl
 ·rw[e]at h7
  rw[(slP_note (a:=a) hc h7).2]
  obtain⟨hA,hh⟩:=hold_note hS hm hc h7
  unfold ledB
  show (isA (H.row.getD (j+1) 0)&&hasP _ (av (H.row.getD (j+1) 0)))=true
  rw[hA,hh];rfl
theorem ends_iff {a:Option Addr} {H:Hp} (hr:roomB a H=true) (hS:holdS (objsP a H) (slP H.row)=true):endsOk H ((objsP a H).map (·.pl))=true↔∀i,i<(objsP a H).length→Fins (ntH H) (nxH H) ((objsP a H).getD i pdD).pl:=by
 rw[endsOk_is (objs_notes hr hS)]
 constructor
 ·intro g i hi
  exact g _ (List.mem_map.2 ⟨_,mem_getDP hi,rfl⟩)
 ·intro g p hp
  obtain⟨d,hd,rfl⟩:=List.mem_map.1 hp
  obtain⟨i,hi,rfl⟩:=List.getElem_of_mem hd
  have:=g i hi
  rwa [List.getD_eq_getElem?_getD,List.getElem?_eq_getElem hi]at this
abbrev hov (H:Hp) (vr vo vm vs:Value) (up:Int) (v:Value):Value:=.agg #[.int .i64 H.half,.int .i64 H.old,vr,.int .i64 H.side,.int .i64 H.top,vo,vm,vs,.int .i64 H.seed,.int .i64 up,v]
abbrev hob (H:Hp) (vr vo vm vs:Value) (up:Int) (v:Value):Obj:=.cells #[.int .i64 H.half,.int .i64 H.old,vr,.int .i64 H.side,.int .i64 H.top,vo,vm,vs,.int .i64 H.seed,.int .i64 up,v] 155
abbrev hz:Hp:=⟨0,0,[],0,0,[],[],[],0⟩
abbrev s0:Value:=.slice none 0 0
abbrev hov0:Value:=hov hz s0 s0 s0 s0 0 s0
theorem hob_cells {W:World} {b:Nat} {H:Hp} {vr vo vm vs:Value} {up:Int} {v:Value} (h:W.heap[b]? = some (hob H vr vo vm vs up v)):(W.cell? ⟨b,0,none⟩=some (.int .i64 H.half)∧W.cell? ⟨b,1,none⟩=some (.int .i64 H.old)∧W.cell? ⟨b,2,none⟩=some vr∧W.cell? ⟨b,3,none⟩=some (.int .i64 H.side)∧W.cell? ⟨b,4,none⟩=some (.int .i64 H.top)∧W.cell? ⟨b,5,none⟩=some vo∧W.cell? ⟨b,6,none⟩=some vm∧W.cell? ⟨b,7,none⟩=some vs∧W.cell? ⟨b,8,none⟩=some (.int .i64 H.seed)∧W.cell? ⟨b,9,none⟩=some (.int .i64 up)∧W.cell? ⟨b,10,none⟩=some v)∧W.frozen? ⟨b,0,none⟩=false∧W.frozen? ⟨b,1,none⟩=false∧W.frozen? ⟨b,2,none⟩=false∧W.frozen? ⟨b,3,none⟩=false∧W.frozen? ⟨b,4,none⟩=false∧W.frozen? ⟨b,5,none⟩=false∧W.frozen? ⟨b,6,none⟩=false∧W.frozen? ⟨b,7,none⟩=false∧W.frozen? ⟨b,8,none⟩=false∧W.frozen? ⟨b,9,none⟩=false∧W.frozen? ⟨b,10,none⟩=false:=by
 refine⟨⟨?_,?_,?_,?_,?_,?_,?_,?_,?_,?_,?_⟩,?_,?_,?_,?_,?_,?_,?_,?_,?_,?_,?_⟩<;>simp[World.cell?, World.frozen?, h]
def hoSet (W:World) (b:Nat) (H:Hp) (vr vo vm vs:Value) (up:Int) (v:Value):World:=((((((((((W.setCell ⟨b,0,none⟩ (.int .i64 H.half)).setCell ⟨b,1,none⟩ (.int .i64 H.old)).setCell ⟨b,2,none⟩ vr).setCell ⟨b,3,none⟩ (.int .i64 H.side)).setCell ⟨b,4,none⟩ (.int .i64 H.top)).setCell ⟨b,5,none⟩ vo).setCell ⟨b,6,none⟩ vm).setCell ⟨b,7,none⟩ vs).setCell ⟨b,8,none⟩ (.int .i64 H.seed)).setCell ⟨b,9,none⟩ (.int .i64 up)).setCell ⟨b,10,none⟩ v
theorem hob_set {W:World} {b:Nat} {H0:Hp} {r0 o0 m0 q0:Value} {up0:Int} {v0:Value} (h:W.heap[b]? = some (hob H0 r0 o0 m0 q0 up0 v0)) (H:Hp) (vr vo vm vs:Value) (up:Int) (v:Value):(hoSet W b H vr vo vm vs up v).heap[b]? = some (hob H vr vo vm vs up v):=(cells_setCell (cells_setCell (cells_setCell (cells_setCell (cells_setCell (cells_setCell (cells_setCell (cells_setCell (cells_setCell (cells_setCell (cells_setCell h 0 (.int .i64 H.half)) 1 (.int .i64 H.old)) 2 vr) 3 (.int .i64 H.side)) 4 (.int .i64 H.top)) 5 vo) 6 vm) 7 vs) 8 (.int .i64 H.seed)) 9 (.int .i64 up)) 10 v).trans (by simp)
theorem hob_below {n:Nat} {w X:World} {b:Nat} (hB:Below n w X) (hb:n≤b) (H:Hp) (vr vo vm vs:Value) (up:Int) (v:Value):Below n w (hoSet X b H vr vo vm vs up v):=((((((((((hB.setCell (p:=⟨b,0,none⟩) hb _).setCell (p:=⟨b,1,none⟩) hb _).setCell (p:=⟨b,2,none⟩) hb _).setCell (p:=⟨b,3,none⟩) hb _).setCell (p:=⟨b,4,none⟩) hb _).setCell (p:=⟨b,5,none⟩) hb _).setCell (p:=⟨b,6,none⟩) hb _).setCell (p:=⟨b,7,none⟩) hb _).setCell (p:=⟨b,8,none⟩) hb _).setCell (p:=⟨b,9,none⟩) hb _).setCell (p:=⟨b,10,none⟩) hb _
theorem hob_ch (X:World) (b:Nat) (H:Hp) (vr vo vm vs:Value) (up:Int) (v:Value):Ch [b] X (hoSet X b H vr vo vm vs up v):=(Ch.trans (Ch.trans (Ch.trans (Ch.trans (Ch.trans (Ch.trans (Ch.trans (Ch.trans (Ch.trans (Ch.trans (one_ch _ _ _ _) (one_ch _ _ _ _)) (one_ch _ _ _ _)) (one_ch _ _ _ _)) (one_ch _ _ _ _)) (one_ch _ _ _ _)) (one_ch _ _ _ _)) (one_ch _ _ _ _)) (one_ch _ _ _ _)) (one_ch _ _ _ _)) (one_ch _ _ _ _))
theorem res_ho {fn:Func} {tmps:Array Value} {X:World} {j i b:Nat} {H:Hp} {a1 a2 a3 a4 a5:Option Addr} {n1 c1 n2 c2 n3 c3 n4 c4 n5 c5:Nat} {up:Int} {bb:Bool} (hf:fn.results=#[.cell j 155,.tmp i]) (h2:tmps[j]? = some (.pointer (some ⟨b,0,none⟩))) (hi:tmps[i]? = some (.bool bb)) (hX:X.heap[b]? = some (hob H (.slice a1 n1 c1) (.slice a2 n2 c2) (.slice a3 n3 c3) (.slice a4 n4 c4) up (.slice a5 n5 c5))) :
    (results fn tmps).run Tryz.prog X = .ok (.tuple #[hov H (.slice a1 n1 c1) (.slice a2 n2 c2) (.slice a3 n3 c3) (.slice a4 n4 c4) up (.slice a5 n5 c5),.bool bb]) X:=by
 obtain⟨⟨k0,k1,k2,k3,k4,k5,k6,k7,k8,k9,k10⟩,_⟩:=hob_cells hX
 clear hX
 simp[results,hf,h2,hi,go_sem,k0,k1,k2,k3,k4,k5,k6,k7,k8,k9,k10]
set_option maxHeartbeats 8000000 in
theorem listsOk_any {w:World} {a1 a2 a3 a4 a5:Option Addr} {c1 c2 c3 c4 c5:Nat} {H:Hp} {up:Int} {ds:List Pd} {sl:Pd→List Int} (h:HpAt w (.slice a1 H.row.length c1) (.slice a2 H.roots.length c2) (.slice a3 H.mourned.length c3) (.slice a4 H.seen.length c4) H) (hs:hpSize H≤1048576) (ho:AllI H.roots) (hm:AllI H.mourned) (hv:RoomsAt w (.slice a5 ds.length c5) ds sl) :
    Calls Tryz.prog 154 #[hov H (.slice a1 H.row.length c1) (.slice a2 H.roots.length c2) (.slice a3 H.mourned.length c3) (.slice a4 H.seen.length c4) up (.slice a5 ds.length c5)] w fun e w'=>e = .returned (.bool (lstB H ds))∧Below w.heap.size w w':=by
 have lr:H.roots.length≤1048576:=by unfold hpSize at hs;omega
 have lm:H.mourned.length≤1048576:=by unfold hpSize at hs;omega
 have B0:Below w.heap.size w (w.alloc (hob H (.slice a1 H.row.length c1) (.slice a2 H.roots.length c2) (.slice a3 H.mourned.length c3) (.slice a4 H.seen.length c4) up (.slice a5 ds.length c5))):=(Below.refl _ _).alloc (Nat.le_refl _) _
 have Q0:=heap_alloc_new w (hob H (.slice a1 H.row.length c1) (.slice a2 H.roots.length c2) (.slice a3 H.mourned.length c3) (.slice a4 H.seen.length c4) up (.slice a5 ds.length c5))
 have HALL:Hid (∀V,Below (w.alloc (hob H (.slice a1 H.row.length c1) (.slice a2 H.roots.length c2) (.slice a3 H.mourned.length c3) (.slice a4 H.seen.length c4) up (.slice a5 ds.length c5))).heap.size (w.alloc (hob H (.slice a1 H.row.length c1) (.slice a2 H.roots.length c2) (.slice a3 H.mourned.length c3) (.slice a4 H.seen.length c4) up (.slice a5 ds.length c5))) V→V.heap[w.heap.size]? = some (hob H (.slice a1 H.row.length c1) (.slice a2 H.roots.length c2) (.slice a3 H.mourned.length c3) (.slice a4 H.seen.length c4) up (.slice a5 ds.length c5))∧Below w.heap.size w V∧(∀xs u,xs.length≤1048576→AllI xs→IntsAt w u xs→Calls Tryz.prog 179 #[rmv up (.slice a5 ds.length c5),u] V fun e w'=>e = .returned (.bool (holdL ds xs))∧Below V.heap.size V w')):=by
  intro V hV
  have B:=B0.trans (hV.mono B0.size)
  exact⟨(hV.block _ (by simp)).trans Q0,B,fun xs u h1 h2 h3=>holdsAll_any (pdsAt_below hv.pds B) hv.slices hv.rise (Nat.le_trans hv.len (by decide)) (intsAt_below h3 B) h1 h2⟩
 have AL:=allLead_any (intsAt_below h.2.2.1 B0) lm hm
 have HRT:Hid (∀V,Below (w.alloc (hob H (.slice a1 H.row.length c1) (.slice a2 H.roots.length c2) (.slice a3 H.mourned.length c3) (.slice a4 H.seen.length c4) up (.slice a5 ds.length c5))).heap.size (w.alloc (hob H (.slice a1 H.row.length c1) (.slice a2 H.roots.length c2) (.slice a3 H.mourned.length c3) (.slice a4 H.seen.length c4) up (.slice a5 ds.length c5))) V→Calls Tryz.prog 179 #[rmv up (.slice a5 ds.length c5),.slice a2 H.roots.length c2] V fun e w'=>e = .returned (.bool (holdL ds H.roots))∧Below V.heap.size V w'):=fun V hV=>(HALL.out V hV).2.2 _ _ lr ho h.2.1
 have HMT:Hid (∀V,Below (w.alloc (hob H (.slice a1 H.row.length c1) (.slice a2 H.roots.length c2) (.slice a3 H.mourned.length c3) (.slice a4 H.seen.length c4) up (.slice a5 ds.length c5))).heap.size (w.alloc (hob H (.slice a1 H.row.length c1) (.slice a2 H.roots.length c2) (.slice a3 H.mourned.length c3) (.slice a4 H.seen.length c4) up (.slice a5 ds.length c5))) V→Calls Tryz.prog 179 #[rmv up (.slice a5 ds.length c5),.slice a3 H.mourned.length c3] V fun e w'=>e = .returned (.bool (holdL ds H.mourned))∧Below V.heap.size V w'):=fun V hV=>(HALL.out V hV).2.2 _ _ lm hm h.2.2.1
 have HB0:Hid _:=B0
 have HG:Hid (∀V,Below (w.alloc (hob H (.slice a1 H.row.length c1) (.slice a2 H.roots.length c2) (.slice a3 H.mourned.length c3) (.slice a4 H.seen.length c4) up (.slice a5 ds.length c5))).heap.size (w.alloc (hob H (.slice a1 H.row.length c1) (.slice a2 H.roots.length c2) (.slice a3 H.mourned.length c3) (.slice a4 H.seen.length c4) up (.slice a5 ds.length c5))) V→V.heap[w.heap.size]? = some (hob H (.slice a1 H.row.length c1) (.slice a2 H.roots.length c2) (.slice a3 H.mourned.length c3) (.slice a4 H.seen.length c4) up (.slice a5 ds.length c5))∧Below w.heap.size w V):=fun V hV=>⟨(HALL.out V hV).1,(HALL.out V hV).2.1⟩
 unfold lstB
 obtain⟨⟨z0,z1,z2,z3,z4,z5,z6,z7,z8,z9,z10⟩,_⟩:=hob_cells Q0
 clear h hs ho hm hv B0 Q0 HALL
 by_cases h6:H.roots.length=6
 case neg=>
  rw[decide_eq_false h6,Bool.false_and,Bool.false_and]
  have n6:((H.roots.length:Int) != 6)=true:=by simp;omega
  clear AL HRT HMT
  go_enter Tryz.func154,Tryz.ntmps154
  go_wp2
  go_ret
  exact⟨rfl,HB0.out⟩
 have n6:((H.roots.length:Int) != 6)=false:=by simp;omega
 by_cases h40:H.mourned.length≤40
 case neg=>
  rw[decide_eq_false h40,Bool.and_false,Bool.false_and]
  have n40:(H.mourned.length:Int) > 40:=by omega
  clear AL HRT HMT h6
  go_enter Tryz.func154,Tryz.ntmps154
  go_wp2
  go_ret
  exact⟨rfl,HB0.out⟩
 have n40:¬(H.mourned.length:Int) > 40:=by omega
 rw[decide_eq_true h6,decide_eq_true h40,Bool.true_and,Bool.true_and]
 obtain⟨P1,hP1⟩:∃P,H.mourned.all isA=P:=⟨_,rfl⟩
 obtain⟨P2,hP2⟩:∃P,holdL ds H.roots=P:=⟨_,rfl⟩
 obtain⟨P3,hP3⟩:∃P,holdL ds H.mourned=P:=⟨_,rfl⟩
 rw[hP1]at AL
 simp only[hP2]at HRT
 simp only[hP3]at HMT
 rw[hP1,hP2,hP3]
 clear hP1 hP2 hP3 h6 h40
 go_enter Tryz.func154,Tryz.ntmps154
 go_upto_region 1 with fail
 generalize w.alloc (hob H (.slice a1 H.row.length c1) (.slice a2 H.roots.length c2) (.slice a3 H.mourned.length c3) (.slice a4 H.seen.length c4) up (.slice a5 ds.length c5))=X at *
 cases P1
 ·clear HRT HMT
  go_wp2_with (go_at_call 183;refine AL.mono ?_;clear AL;rintro e w3 ⟨rfl,hw3⟩;rw[hw3];clear hw3 w3)
  go_ret
  exact⟨rfl,HB0.out⟩
 have RX:=HRT.out X (Below.refl _ _)
 cases P2
 ·clear HRT HMT
  go_wp2_with (first|(go_at_call 183;refine AL.mono ?_;clear AL;rintro e w3 ⟨rfl,hw3⟩;rw[hw3];clear hw3 w3)|(go_at_call 179;refine RX.mono ?_;clear RX;rintro e w4 ⟨rfl,b4⟩;have HB4:Hid _:=(HG.out w4 b4).2;clear b4))
  go_ret
  exact⟨rfl,HB4.out⟩
 clear HRT
 go_wp2_with (first
  |(go_at_call 183;refine AL.mono ?_;clear AL;rintro e w3 ⟨rfl,hw3⟩;rw[hw3];clear hw3 w3)
  |(have hh:=RX;clear hh;go_at_call 179;refine RX.mono ?_;clear RX z0 z1 z2 z3 z4 z5 z6 z7 z8 z9 z10;rintro e w4 ⟨rfl,b4⟩;obtain⟨q4,_⟩:=HG.out w4 b4;obtain⟨⟨z0,z1,z2,z3,z4,z5,z6,z7,z8,z9,z10⟩,_⟩:=hob_cells q4;have MX:=HMT.out w4 b4;have HB4:Hid _:=b4;clear b4 q4 HMT)
  |(have hh:=MX;clear hh;go_at_call 179;refine MX.mono ?_;clear MX;rintro e w5 ⟨rfl,b5⟩;have HB5:Hid _:=(HG.out w5 (HB4.out.trans (b5.mono HB4.out.size))).2;clear b5))
 go_ret
 exact⟨rfl,HB5.out⟩
end Go.Proofs.YtkiognecebgaiaaGreatDoor.hp
namespace Go.Proofs.YtkiognecebgaiaaGreatDoor.hp
open Go.RowKit rows heads words walks region
set_option maxRecDepth 100000
set_option linter.unusedVariables false
set_option linter.unusedSimpArgs false
end Go.Proofs.YtkiognecebgaiaaGreatDoor.hp
namespace Go.Proofs.YtkiognecebgaiaaGreatDoor.hp
open Go.RowKit rows heads words walks
set_option maxRecDepth 100000
set_option linter.unusedVariables false
theorem slotsLen_le {n:Nat}:∀ {ms:List gr.MO},(∀m ∈ ms,m.slots.length≤n)→gr.slotsLen ms≤n*ms.length
 | [],_=>by simp[gr.slotsLen]
 |m :: ms,h=>by
  have h0:=h m (List.mem_cons_self ..)
  have:=slotsLen_le (ms:=ms) (fun x hx=>h x (List.mem_cons_of_mem _ hx))
  simp only[gr.slotsLen,List.length_cons]
  rw[Nat.mul_add]
  omega
theorem shown_small (H:Hp) (rs:List gr.MO) (h:rs.map gr.MO.abs=(shownG H).objs):gr.gSize rs (shownG H)≤1048576:=by
 unfold shownG at h ⊢
 split
 ·rename_i hc
  rw[if_pos hc]at h
  obtain⟨ps,R⟩:=rt_of (ok_right hc.1).1
  have N:=(places_facts R.some').1
  have h1:rs.length=(ordH H).length:=by
   have:=congrArg List.length h
   simpa [grS] using this
  have h2:gr.slotsLen rs≤1000*rs.length:=slotsLen_le (fun m hm=>by
   have hm':m.abs ∈ (grS H (ordH H)).objs:=by rw[←h];exact List.mem_map_of_mem hm
   obtain⟨k,_,e⟩:=List.mem_map.1 (show m.abs ∈ (List.range (ordH H).length).map (obS H (ordH H)) from hm')
   have e2:m.slots=(obS H (ordH H) k).slots:=by rw[e];rfl
   rw[e2]
   show (List.map _ _).length≤_
   rw[List.length_map]
   unfold slotsOf
   rw[List.length_take,List.length_drop]
   have:=R.len
   omega)
  have h3:(grS H (ordH H)).roots.length=H.roots.length:=by simp[grS]
  have h4:(grS H (ordH H)).mourned.length=H.mourned.length:=by simp[grS]
  have:=N.roots
  have:=N.mourned
  have:=hc.2
  unfold gr.gSize
  rw[h3,h4]
  omega
 ·rename_i hc
  rw[if_neg hc]at h
  have:rs=[]:=by simpa using h
  subst this
  simp[gr.gSize,gr.slotsLen]
end Go.Proofs.YtkiognecebgaiaaGreatDoor.hp
