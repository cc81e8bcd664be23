/-
  Chapter 10 as the program has it: HashOf and ClassOf. Chapter 12 as the specification has it: a slot there is, and what stands in it, followed. Chapter 12 as lists: a slot stored, and what is seen then.
-/
import Derived.Test.YtemlagfaaibenaaGreatFollowI
import Derived.Test.YtemlagfaaibenaaGreatM19
import Derived.Deep.RegionLaw
import Derived.Test.YtemlagfaaibenaaGreatM18
namespace Go.Proofs.YtemlagfaaibenaaGreat.hp
open Go.RowKit rows heads words walks
set_option maxRecDepth 100000
set_option linter.unusedVariables false
set_option linter.unusedSimpArgs false
theorem FolP.led {H:Hp} {ps:List Int} {ds:List Pd} {sl:Pd→List Int} (h:FolP H ps ds sl) {x:Int} (hx:wordIn H ps x=true):ledB ds x=isA x:=by
 have hw:=h.word x
 rw[hx]at hw
 unfold ledB
 unfold holdW at hw
 cases e:isA x
 ·rfl
 ·rw[e,if_pos rfl]at hw
  rw[hw];rfl
theorem fol_num {H:Hp} (hr:AllI H.row):∀(n:Nat) (x:Int),I64 x→I64 (folL H n x)
 |0,x,h=>h
 |n+1,x,h=>by
  unfold folL
  split
  ·refine fol_num hr n _ ?_
   unfold noteW
   by_cases e:(av x).toNat+1<H.row.length
   ·rw[List.getD_eq_getElem?_getD,List.getElem?_eq_getElem e]
    exact hr _ (List.getElem_mem e)
   ·rw[List.getD_eq_getElem?_getD,List.getElem?_eq_none (by omega)]
    exact⟨by decide,by decide⟩
  ·exact h
set_option maxHeartbeats 16000000 in
theorem standing_any {w:World} {up:Int} {a:Option Addr} {cap:Nat} {H:Hp} {ps:List Int} {ds:List Pd} {sl:Pd→List Int} (hv:RoomsAt w (.slice a ds.length cap) ds sl) (hF:FolP H ps ds sl) (hr:AllI H.row) (x:Int) (hx:wordIn H ps x=true) (hb:I64 x) :
    Calls Tryz.prog 84 #[rmv up (.slice a ds.length cap),.int .i64 x] w fun e w'=>(isA (fol H x)=false→e = .returned (.tuple #[pdv pdD,.bool false]))∧(isA (fol H x)=true→∃i,i<ds.length∧(ds.getD i pdD).pl=av (fol H x)∧e = .returned (.tuple #[pdv (ds.getD i pdD),.bool true]))∧Below w.heap.size w w':=by
 have B0:Below w.heap.size w (w.alloc (rmb up (.slice a ds.length cap))):=(Below.refl _ _).alloc (Nat.le_refl _) _
 have B1:=B0.alloc B0.size (pdb pdD)
 have hyw:=(hF.rt.followed hx).1
 have hyb:I64 (fol H x):=fol_num hr 1000 x hb
 have hyl:=hF.led hyw
 have HFO:Hid (∀V,Below w.heap.size w V→Calls Tryz.prog 112 #[rmv up (.slice a ds.length cap),.int .i64 x] V fun e w'=>e = .returned (.int .i64 (fol H x))∧Below V.heap.size V w'):=fun V hV=>follow_any (hv.below hV) hF x hx hb
 obtain⟨y,hy⟩:∃y,fol H x=y:=⟨_,rfl⟩
 rw[hy]at hyb hyl
 simp only[hy]at HFO
 rw[hy]
 have HLB:Hid (∀V,Below w.heap.size w V→Calls Tryz.prog 100 #[rmv up (.slice a ds.length cap),.int .i64 y] V fun e w'=>(isA y=false→e = .returned (.tuple #[pdv pdD,.bool false]))∧(isA y=true→∃i,i<ds.length∧(ds.getD i pdD).pl=av y∧e = .returned (.tuple #[pdv (ds.getD i pdD),.bool true]))∧Below V.heap.size V w'):=fun V hV=>by
  have:=ledBy_any (up:=up) (pdsAt_below hv.pds hV) hv.slices hv.rise (Nat.le_trans hv.len (by decide)) y hyb.1 hyb.2
  rwa [hyl]at this
 have HSL:Hid _:=hv.slices
 have HALL:Hid (∀V,Below ((w.alloc (rmb up (.slice a ds.length cap))).alloc (pdb pdD)).heap.size ((w.alloc (rmb up (.slice a ds.length cap))).alloc (pdb pdD)) V→(V.cell? ⟨w.heap.size,0,none⟩=some (.int .i64 up)∧V.cell? ⟨w.heap.size,1,none⟩=some (.slice a ds.length cap))∧V.heap[w.heap.size+1]? = some (pdb pdD)∧Below w.heap.size w V∧w.heap.size+2≤V.heap.size):=by
  intro V hV
  have T1:=heap_alloc_new (w.alloc (rmb up (.slice a ds.length cap))) (pdb pdD)
  have T2:Below (w.heap.size+1) (w.alloc (rmb up (.slice a ds.length cap))) V:=((Below.refl _ _).alloc (by simp) _).trans (hV.mono (by simp))
  have q0:V.heap[w.heap.size]? = some (rmb up (.slice a ds.length cap)):=(T2.block _ (by omega)).trans (heap_alloc_new w _)
  have q1:V.heap[w.heap.size+1]? = some (pdb pdD):=(hV.block (w.heap.size+1) (by simp)).trans ((congrArg (fun k=>((w.alloc (rmb up (.slice a ds.length cap))).alloc (pdb pdD)).heap[k]?) (show w.heap.size+1=(w.alloc (rmb up (.slice a ds.length cap))).heap.size by simp)).trans T1)
  have hsz:=hV.size
  exact⟨(rmb_cells q0).1,q1,B1.trans (hV.mono B1.size),by simpa using hsz⟩
 clear hv hF hr hx hb B0 B1 hyw hyb hyl hy
 go_enter Tryz.func84,Tryz.ntmps84
 go_upto_region 1 with fail
 generalize (w.alloc _).alloc _=X at *
 obtain⟨⟨z0,z1⟩,_⟩:=HALL.out X (Below.refl _ _)
 have HG:Hid (∀(V w':World),Below V.heap.size V w'→Below X.heap.size X V→(w'.cell? ⟨w.heap.size,0,none⟩=some (.int .i64 up)∧w'.cell? ⟨w.heap.size,1,none⟩=some (.slice a ds.length cap))∧w'.heap[w.heap.size+1]? = some (pdb pdD)∧Below w.heap.size w w'∧w.heap.size+2≤w'.heap.size∧Below X.heap.size X w'):=by
  intro V w' h1 h2
  have hX:Below X.heap.size X w':=h2.trans (h1.mono h2.size)
  obtain⟨hz,q,hw,s⟩:=HALL.out w' hX
  exact⟨hz,q,hw,s,hX⟩
 have HGB:Hid (∀V,Below X.heap.size X V→Below w.heap.size w V):=fun V hV=>(HG.out X V hV (Below.refl _ _)).2.2.1
 clear HALL
 cases dA:isA y
 ·have HDA:Hid _:=dA
  simp only[dA]at HLB
  clear dA
  have HL0:Hid (∀V,Below w.heap.size w V→Calls Tryz.prog 100 #[rmv up (.slice a ds.length cap),.int .i64 y] V fun e w'=>e = .returned (.tuple #[pdv pdD,.bool false])∧Below V.heap.size V w'):=fun V hV=>(HLB.out V hV).mono (fun e w' hh=>⟨hh.1 (by trivial),hh.2.2⟩)
  clear HLB
  go_region_law (first
   |(go_simp;go_at_call 112;refine Calls.mono (HFO.out _ (HGB.out _ ⟨rfl,rfl,rfl,Nat.le_refl _,fun _ _=>rfl⟩)) ?_;rintro e w5 ⟨rfl,b5⟩;obtain⟨⟨t0,t1⟩,_,y5,_,x5⟩:=HG.out _ _ b5 ⟨rfl,rfl,rfl,Nat.le_refl _,fun _ _=>rfl⟩;have HW5:Hid _:=y5;have HX5:Hid _:=x5;clear HFO b5 y5 x5 HGB)
   |(go_simp;go_at_call 100;refine Calls.mono (HL0.out _ ⟨HW5.out.os,HW5.out.tape,HW5.out.output,HW5.out.size,HW5.out.block⟩) ?_;rintro e w6 ⟨rfl,b6⟩;obtain⟨_,q6,bw6,s6,_⟩:=HG.out w5 w6 ⟨b6.os,b6.tape,b6.output,b6.size,b6.block⟩ HX5.out;obtain⟨⟨g0,g1,g2,g3,g4,g5,g6,g7⟩,f0,f1,f2,f3,f4,f5,f6,f7⟩:=pdb_cells q6;have HQ6:Hid _:=q6;have HBW:Hid _:=bw6;clear HL0 b6 q6 bw6 HG))
  all_goals (go_wp2_with fail)
  all_goals exact bodyPost_ret (res_pd rfl rfl rfl (pdb_set HQ6.out pdD)) rfl ⟨fun _=>rfl,fun e=>absurd (HDA.out.symm.trans e) (by decide),pdb_below HBW.out (by omega) pdD⟩
 ·have HDA:Hid _:=dA
  simp only[dA]at HLB
  clear dA
  have HL0:Hid (∀V,Below w.heap.size w V→Calls Tryz.prog 100 #[rmv up (.slice a ds.length cap),.int .i64 y] V fun e w'=>(∃i,i<ds.length∧(ds.getD i pdD).pl=av y∧e = .returned (.tuple #[pdv (ds.getD i pdD),.bool true]))∧Below V.heap.size V w'):=fun V hV=>(HLB.out V hV).mono (fun e w' hh=>⟨hh.2.1 (by trivial),hh.2.2⟩)
  clear HLB
  go_region_law (first
   |(go_simp;go_at_call 112;refine Calls.mono (HFO.out _ (HGB.out _ ⟨rfl,rfl,rfl,Nat.le_refl _,fun _ _=>rfl⟩)) ?_;rintro e w5 ⟨rfl,b5⟩;obtain⟨⟨t0,t1⟩,_,y5,_,x5⟩:=HG.out _ _ b5 ⟨rfl,rfl,rfl,Nat.le_refl _,fun _ _=>rfl⟩;have HW5:Hid _:=y5;have HX5:Hid _:=x5;clear HFO b5 y5 x5 HGB)
   |(go_simp;go_at_call 100;refine Calls.mono (HL0.out _ ⟨HW5.out.os,HW5.out.tape,HW5.out.output,HW5.out.size,HW5.out.block⟩) ?_;rintro e w6 ⟨⟨i,hi,hpl,rfl⟩,b6⟩;obtain⟨_,q6,bw6,s6,_⟩:=HG.out w5 w6 ⟨b6.os,b6.tape,b6.output,b6.size,b6.block⟩ HX5.out;obtain⟨⟨g0,g1,g2,g3,g4,g5,g6,g7⟩,f0,f1,f2,f3,f4,f5,f6,f7⟩:=pdb_cells q6;have HQ6:Hid _:=q6;have HBW:Hid _:=bw6;obtain⟨sa,sn,sc,hsv⟩:=HSL.out _ (mem_getDP hi);obtain⟨d,hd⟩:∃d,ds.getD i pdD=d:=⟨_,rfl⟩;rw[hd]at hsv hpl ⊢; have HD:Hid _:=hd;have HPL:Hid _:=hpl;obtain⟨ds',df,dc,dh,dp,dm,du,dl⟩:=d;simp only at hsv;subst hsv;clear HL0 b6 q6 bw6 HG hd hpl))
  all_goals (go_wp2_with fail)
  all_goals exact bodyPost_ret (res_pd rfl rfl rfl (pdb_set HQ6.out ⟨ds',df,dc,dh,dp,dm,.slice sa sn sc,dl⟩)) rfl ⟨fun e=>absurd (HDA.out.symm.trans e) (by decide),fun _=>⟨i,hi,(by first|(rw[HD.out];exact HPL.out)|(have q:=HD.out;rw[List.getD_eq_getElem?_getD]at q;rw[q];exact HPL.out)),(by first|rw[HD.out]|(have q:=HD.out;rw[List.getD_eq_getElem?_getD]at q;rw[q]))⟩,pdb_below HBW.out (by omega) ⟨ds',df,dc,dh,dp,dm,.slice sa sn sc,dl⟩⟩
theorem rootInRangeH_any (x:Int) (w:World):Calls Tryz.prog 83 #[.int .i64 x] w fun e w'=>e = .returned (.bool (inR 0 5 x))∧w'=w:=by
 by_cases h1:(0:Int)≤x
 ·by_cases h2:x<6
  ·rw[show inR 0 5 x=true by simp[inR];omega]
   go_enter Tryz.func83,Tryz.ntmps83
   go_wp2
   go_ret
   exact⟨rfl,rfl⟩
  ·rw[show inR 0 5 x=false by simp[inR];omega]
   go_enter Tryz.func83,Tryz.ntmps83
   go_wp2
   go_ret
   exact⟨rfl,rfl⟩
 ·rw[show inR 0 5 x=false by simp[inR];omega]
  go_enter Tryz.func83,Tryz.ntmps83
  go_wp2
  go_ret
  exact⟨rfl,rfl⟩
end Go.Proofs.YtemlagfaaibenaaGreat.hp
namespace Go.Proofs.YtemlagfaaibenaaGreat.hp
open Go.RowKit rows heads words walks region
set_option maxRecDepth 100000
set_option linter.unusedVariables false
set_option linter.unusedSimpArgs false
end Go.Proofs.YtemlagfaaibenaaGreat.hp
namespace Go.Proofs.YtemlagfaaibenaaGreat.hp
open Go.RowKit rows heads words walks
set_option maxRecDepth 100000
set_option linter.unusedVariables false
end Go.Proofs.YtemlagfaaibenaaGreat.hp
