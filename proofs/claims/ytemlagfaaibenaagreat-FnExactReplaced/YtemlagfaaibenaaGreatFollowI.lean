/-
  Chapter 10 as the program has it: Follow.
  Made from the template FollowI.
-/
import Derived.Test.YtemlagfaaibenaaGreatM18
import Derived.Test.YtemlagfaaibenaaGreatHeapI21
import Derived.WalkMore
namespace Go.Proofs.YtemlagfaaibenaaGreat.hp
open Go.RowKit rows heads words walks
set_option maxRecDepth 100000
set_option linter.unusedVariables false
set_option linter.unusedSimpArgs false
structure FolP (H:Hp) (ps:List Int) (ds:List Pd) (sl:Pd→List Int):Prop where
 rt:Rt H ps
 note:NoteP ds sl (ntH H) (nxH H)
 word:∀x,holdW ds x=wordIn H ps x
 first:∀i,i<ds.length→(ds.getD i pdD).f=7→(sl (ds.getD i pdD)).getD 0 0=H.row.getD ((ds.getD i pdD).pl.toNat+1) 0
theorem folP_of {a:Option Addr} {H:Hp} (h:heapOk H=true):∃ps,FolP H ps (objsP a H) (slP H.row):=by
 have hr:=(ok_right h).1
 obtain⟨ps,R⟩:=rt_of hr
 rw[←openB_is a H]at hr
 obtain⟨hn,hro,hS,_,_⟩:=openB_parts hr
 have hb:placesB H=some ps:=by
  have:=R.some'
  unfold placesR at this
  split at this
  ·cases this
  ·exact this
 have RM:=rooms_of (a:=a) hn hro hb R.some'
 refine⟨ps,R,noteP_of hn hro hS,RM.word,fun i hi h7 => ?_⟩
 obtain⟨j,e,hc,h6⟩:=objs_in hro _ (mem_getDP hi)
 rw[e]at h7 ⊢
 rw[(slP_note (a:=a) hc h7).2,pdOf_pl,Int.toNat_natCast];rfl
set_option maxHeartbeats 16000000 in
theorem follow_any {w:World} {up:Int} {a:Option Addr} {cap:Nat} {H:Hp} {ps:List Int} {ds:List Pd} {sl:Pd→List Int} (hv:RoomsAt w (.slice a ds.length cap) ds sl) (hF:FolP H ps ds sl) (x:Int) (hx:wordIn H ps x=true) (hb:I64 x) :
    Calls Tryz.prog 112 #[rmv up (.slice a ds.length cap),.int .i64 x] w fun e w'=>e = .returned (.int .i64 (fol H x))∧Below w.heap.size w w':=by
 have B0:Below w.heap.size w (w.alloc (rmb up (.slice a ds.length cap))):=(Below.refl _ _).alloc (Nat.le_refl _) _
 have HALL:Hid (∀V,Below (w.alloc (rmb up (.slice a ds.length cap))).heap.size (w.alloc (rmb up (.slice a ds.length cap))) V→(V.cell? ⟨w.heap.size,0,none⟩=some (.int .i64 up)∧V.cell? ⟨w.heap.size,1,none⟩=some (.slice a ds.length cap))∧Below w.heap.size w V):=by
  intro V hV
  have q0:V.heap[w.heap.size]? = some (rmb up (.slice a ds.length cap)):=(hV.block _ (by simp)).trans (heap_alloc_new w _)
  exact⟨(rmb_cells q0).1,B0.trans (hV.mono B0.size)⟩
 have HLB:Hid (∀V,Below w.heap.size w V→∀x,I64 x→Calls Tryz.prog 100 #[rmv up (.slice a ds.length cap),.int .i64 x] V fun e w'=>(ledB ds x=false→e = .returned (.tuple #[pdv pdD,.bool false]))∧(ledB ds x=true→∃i,i<ds.length∧(ds.getD i pdD).pl=av x∧e = .returned (.tuple #[pdv (ds.getD i pdD),.bool true]))∧Below V.heap.size V w'):=fun V hV x hx=>ledBy_any (pdsAt_below hv.pds hV) hv.slices hv.rise (Nat.le_trans hv.len (by decide)) x hx.1 hx.2
 have HSL:Hid _:=hv.slices
 have HSP:Hid _:=hv.slots
 have HFP:Hid _:=hF
 obtain⟨A,hA⟩:∃A,fol H x=A:=⟨_,rfl⟩
 rw[hA]
 have HA:Hid _:=hA
 have HX:Hid _:=hx
 have HXB:Hid _:=hb
 clear hv hF B0 hA hx hb
 go_enter Tryz.func112,Tryz.ntmps112
 go_wp2_with fail
 generalize w.alloc (rmb up (.slice a ds.length cap))=X at *
 go_step3
 go_wp2_with fail
 go_step3
 go_wp2_with fail
 go_loopw [1,5,6] (fun u _ _ wz=>∃y:Int,u = .int .i64 y∧wordIn H ps y=true∧I64 y∧fol H y=A∧Below X.heap.size X wz) (fun u _ _ _=>rk H (intOf u))
 case atStart=>exact⟨x,rfl,HX.out,HXB.out,HA.out,Below.refl _ _⟩
 case round=>
  obtain⟨y,rfl,hy,hyb,hF,hB⟩:=hrel
  clear HA HX HXB
  have HB:Hid _:=hB
  obtain⟨⟨z0,z1⟩,bw⟩:=HALL.out wr hB
  have LB:=HLB.out wr bw y hyb
  have hw:=HFP.out.word y
  rw[hy]at hw
  cases hl:ledB ds y
  ·have HE:Hid (A=y):=by
     show _=_
     rw[←hF]
     refine fol_stop ?_
     unfold toNote
     unfold ledB at hl
     unfold holdW at hw
     cases e:isA y
     ·rfl
     ·rw[e]at hl hw
      rw[Bool.true_and]at hl
      rw[if_pos rfl,hl]at hw
      cases hw
   have L0:=LB.mono (fun e w' (hh:_∧_∧_)=>(⟨hh.1 hl,hh.2.2⟩:e = .returned (.tuple #[pdv pdD,.bool false])∧Below wr.heap.size wr w'))
   have HBW:Hid _:=bw
   clear LB hl hw hF hy bw hB
   go_upto_region 2 with (go_at_call 100;refine L0.mono ?_;clear L0 z0 z1;rintro e w3 ⟨rfl,b3⟩;have HB3:Hid _:=HBW.out.trans (b3.mono HBW.out.size);clear b3)
   obtain⟨⟨p0,p1,p2,p3,p4,p5,p6,p7⟩,_⟩:=pdb_cells (heap_alloc_new w3 (pdb pdD))
   have HB4:Hid _:=HB3.out.alloc HB3.out.size (pdb pdD)
   generalize w3.alloc (pdb pdD)=Y at *
   go_wp2
   try rw[Exit.noGoto_ret]
   go_ret
   exact⟨by rw[HE.out];rfl,HB4.out⟩
  ·have L0:=LB.mono (fun e w' (hh:_∧_∧_)=>(⟨hh.2.1 hl,hh.2.2⟩:(∃i,i<ds.length∧(ds.getD i pdD).pl=av y∧e = .returned (.tuple #[pdv (ds.getD i pdD),.bool true]))∧Below wr.heap.size wr w'))
   have hAy:isA y=true:=by
    unfold ledB at hl
    rw[Bool.and_eq_true]at hl
    exact hl.1
   have HST:Hid (toNote H y=false→A=y):=fun e=>by rw[←hF];exact fol_stop e
   have HNT:Hid (toNote H y=true→_):=fun e=>HFP.out.rt.note hy e
   have HFY:Hid _:=hF
   have HBW:Hid _:=bw
   have HAY:Hid _:=hAy
   clear LB hl hw hF hy bw hB hAy
   go_upto_region 2 with (go_at_call 100;refine L0.mono ?_;clear L0 z0 z1;rintro e w3 ⟨⟨i,hi,hpl,rfl⟩,b3⟩;have HB3:Hid (Below X.heap.size X w3):=HB.out.trans (b3.mono HB.out.size);obtain⟨sa,sn,sc,hsv⟩:=HSL.out _ (mem_getDP hi);have HN1:Hid _:=HFP.out.note.isNote i hi;have HSO:Hid _:=HFP.out.note.some' i hi;have HFI:Hid _:=HFP.out.first i hi;have HSC:Hid _:=(fun V hV=>HSP.out.call V hV i hi);have HSN:Hid _:=HSP.out.num i hi;obtain⟨d,hd⟩:∃d,ds.getD i pdD=d:=⟨_,rfl⟩;simp only[hd]at hsv hpl HN1 HSO HFI HSC HSN;rw[hd];obtain⟨ds',df,dc,dh,dp,dm,du,dl⟩:=d;simp only at hsv hpl HN1 HSO HFI HSC;subst hsv;have HPL:Hid _:=hpl;clear b3 hd hpl)
   obtain⟨⟨p0,p1,p2,p3,p4,p5,p6,p7⟩,_⟩:=pdb_cells (heap_alloc_new w3 (pdb ⟨ds',df,dc,dh,dp,dm,.slice sa sn sc,dl⟩))
   simp only at p0 p1 p2 p3 p4 p5 p6 p7
   have HB4:Hid (Below X.heap.size X (w3.alloc (pdb ⟨ds',df,dc,dh,dp,dm,.slice sa sn sc,dl⟩))):=HB3.out.alloc HB3.out.size _
   generalize w3.alloc (pdb ⟨ds',df,dc,dh,dp,dm,.slice sa sn sc,dl⟩)=Y at *
   have htn:toNote H y=(df==7):=by unfold toNote;rw[HAY.out,Bool.true_and,←HPL.out];exact HN1.out.symm
   cases h7:(df==7)
   ·have h7':¬df=7:=by simpa using h7
    have HE:Hid (A=y):=HST.out (by rw[htn];exact h7)
    have HBE:Hid _:=(HALL.out Y HB4.out).2
    clear htn HST HNT
    go_wp2
    try rw[Exit.noGoto_ret]
    go_ret
    exact⟨by rw[HE.out];rfl,HBE.out⟩
   ·obtain rfl:df=7:=by simpa using h7
    obtain⟨_,n2,n3,n4,n5⟩:=HNT.out (by rw[htn];rfl)
    have hxp:=HSO.out (by trivial)
    have hfi:=HFI.out (by trivial)
    have hz:noteW H y=(sl ⟨ds',7,dc,dh,dp,dm,.slice sa sn sc,dl⟩).getD 0 0:=by unfold noteW;rw[←HPL.out];exact hfi.symm
    have hzb:=getD_num HSN.out hxp
    have BY:=(HALL.out Y HB4.out).2
    have NA:=note_any (w:=Y) hxp (fun V' hV'=>HSC.out V' (BY.trans (hV'.mono BY.size)))
    rw[←hz]at NA hzb
    have HN:Hid (wordIn H ps (noteW H y)=true∧I64 (noteW H y)∧fol H (noteW H y)=A∧rk H (noteW H y)<rk H y):=⟨n2,hzb,by rw[←n4];exact HFY.out,n5⟩
    clear htn HST HNT h7 hz hfi hxp hzb n2 n3 n4 n5 BY
    generalize noteW H y=z at *
    go_wp2_with (go_at_call 119;refine NA.mono ?_;clear NA p0 p1 p2 p3 p4 p5 p6 p7;rintro e w5 ⟨rfl,b5⟩;have HB5:Hid _:=HB4.out.trans (b5.mono HB4.out.size);clear b5)
    exact⟨⟨z,rfl,HN.out.1,HN.out.2.1,HN.out.2.2.1,HB5.out⟩,HN.out.2.2.2⟩
end Go.Proofs.YtemlagfaaibenaaGreat.hp
