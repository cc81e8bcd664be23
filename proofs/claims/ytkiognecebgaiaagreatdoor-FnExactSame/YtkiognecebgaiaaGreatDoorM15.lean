/-
  Chapter 9 as the program has it: the chunk at a place, whether a word leads nowhere or to one. Chapter 9 as the program has it: whether the slots of all chunks lead nowhere or to one. Chapter 9 as the program has it: the chunks of the rooms rise, and what slots tells of each. Chapter 9 as the progra
-/
import Derived.Test.YtkiognecebgaiaaGreatDoorHeapI9
import Derived.Test.YtkiognecebgaiaaGreatDoorM7
import Derived.Test.YtkiognecebgaiaaGreatDoorM11
namespace Go.Proofs.YtkiognecebgaiaaGreatDoor.hp
open Go.RowKit rows heads words walks
set_option maxRecDepth 100000
set_option linter.unusedVariables false
set_option linter.unusedSimpArgs false
theorem pdb_cells {W:World} {b:Nat} {d:Pd} (h:W.heap[b]? = some (pdb d)):(W.cell? ⟨b,0,none⟩=some (.int .i64 d.s)∧W.cell? ⟨b,1,none⟩=some (.int .i64 d.f)∧W.cell? ⟨b,2,none⟩=some (.int .i64 d.c)∧W.cell? ⟨b,3,none⟩=some (.int .i64 d.h)∧W.cell? ⟨b,4,none⟩=some (.bool d.p)∧W.cell? ⟨b,5,none⟩=some (.bool d.m)∧W.cell? ⟨b,6,none⟩=some d.u∧W.cell? ⟨b,7,none⟩=some (.int .i64 d.pl))∧(W.frozen? ⟨b,0,none⟩=false∧W.frozen? ⟨b,1,none⟩=false∧W.frozen? ⟨b,2,none⟩=false∧W.frozen? ⟨b,3,none⟩=false∧W.frozen? ⟨b,4,none⟩=false∧W.frozen? ⟨b,5,none⟩=false∧W.frozen? ⟨b,6,none⟩=false∧W.frozen? ⟨b,7,none⟩=false):=by
 refine⟨⟨?_,?_,?_,?_,?_,?_,?_,?_⟩,?_,?_,?_,?_,?_,?_,?_,?_⟩<;>simp[World.cell?, World.frozen?, h]
abbrev pdSet (X:World) (b:Nat) (d:Pd):World:=(((((((X.setCell ⟨b,0,none⟩ (.int .i64 d.s)).setCell ⟨b,1,none⟩ (.int .i64 d.f)).setCell ⟨b,2,none⟩ (.int .i64 d.c)).setCell ⟨b,3,none⟩ (.int .i64 d.h)).setCell ⟨b,4,none⟩ (.bool d.p)).setCell ⟨b,5,none⟩ (.bool d.m)).setCell ⟨b,6,none⟩ d.u).setCell ⟨b,7,none⟩ (.int .i64 d.pl)
theorem pdb_set {W:World} {b:Nat} {d:Pd} (h:W.heap[b]? = some (pdb d)) (e:Pd):(pdSet W b e).heap[b]? = some (pdb e):=
 (cells_setCell (cells_setCell (cells_setCell (cells_setCell (cells_setCell (cells_setCell (cells_setCell (cells_setCell h 0 (.int .i64 e.s)) 1 (.int .i64 e.f)) 2 (.int .i64 e.c)) 3 (.int .i64 e.h)) 4 (.bool e.p)) 5 (.bool e.m)) 6 e.u) 7 (.int .i64 e.pl)).trans (by simp)
theorem pdb_below {n:Nat} {w X:World} {b:Nat} (hB:Below n w X) (hb:n≤b) (e:Pd):Below n w (pdSet X b e):=(((((((hB.setCell (p:=⟨b,0,none⟩) hb _).setCell (p:=⟨b,1,none⟩) hb _).setCell (p:=⟨b,2,none⟩) hb _).setCell (p:=⟨b,3,none⟩) hb _).setCell (p:=⟨b,4,none⟩) hb _).setCell (p:=⟨b,5,none⟩) hb _).setCell (p:=⟨b,6,none⟩) hb _).setCell (p:=⟨b,7,none⟩) hb _
theorem res_pd {fn:Func} {tmps:Array Value} {X:World} {j i b:Nat} {s f c h:Int} {p m:Bool} {ua:Option Addr} {un uc:Nat} {pl:Int} {bb:Bool} (hf:fn.results=#[.cell j 197,.tmp i]) (h2:tmps[j]? = some (.pointer (some ⟨b,0,none⟩))) (hi:tmps[i]? = some (.bool bb)) (hX:X.heap[b]? = some (pdb ⟨s,f,c,h,p,m,.slice ua un uc,pl⟩)) :
    (results fn tmps).run Tryz.prog X = .ok (.tuple #[pdv ⟨s,f,c,h,p,m,.slice ua un uc,pl⟩,.bool bb]) X:=by
 obtain⟨⟨k0,k1,k2,k3,k4,k5,k6,k7⟩,_⟩:=pdb_cells hX
 clear hX
 simp only at k0 k1 k2 k3 k4 k5 k6 k7
 simp[results,hf,h2,hi,go_sem,k0,k1,k2,k3,k4,k5,k6,k7]
abbrev rmv (up:Int) (v:Value):Value:=.agg #[.int .i64 up,v]
def hasP (ds:List Pd) (at':Int):Bool:=ds.any (fun d=>d.pl==at')
theorem hasP_no {ds:List Pd} {x:Int} {i:Nat} (hr:RiseP ds) (h:EndsP ds x i) (hn:(decide (i<ds.length)&&decide ((ds.getD i pdD).pl=x))=false):hasP ds x=false:=by
 unfold hasP
 rw[List.any_eq_false]
 intro d hd e
 obtain⟨m,hm,rfl⟩:=List.getElem_of_mem hd
 have em:ds[m]=ds.getD m pdD:=by rw[List.getD_eq_getElem?_getD,List.getElem?_eq_getElem hm];rfl
 rw[em]at e
 have e':(ds.getD m pdD).pl=x:=by simpa using e
 rcases Nat.lt_trichotomy m i with h1|h1|h1
 ·have:=h.2.1 m h1;omega
 ·subst h1;rw[decide_eq_true hm,decide_eq_true e']at hn;cases hn
 ·have h2:=h.2.2 i (Nat.le_refl _) (by omega)
  have h3:=hr i m h1 hm
  omega
theorem hasP_yes {ds:List Pd} {i:Nat} (hi:i<ds.length):hasP ds (ds.getD i pdD).pl=true:=by
 unfold hasP
 rw[List.any_eq_true]
 exact⟨_,mem_getDP hi,by simp⟩
set_option maxHeartbeats 8000000 in
theorem find_any {w:World} {up:Int} {v:Value} {ds:List Pd} (h:PdsAt w v ds) (hs:SlicesP ds) (hr:RiseP ds) (hl:ds.length≤1048576) (x:Int) :
    Calls Tryz.prog 197 #[rmv up v,.int .i64 x] w fun e w'=>(hasP ds x=false→e = .returned (.tuple #[pdv pdD,.bool false]))∧(hasP ds x=true→∃i,i<ds.length∧(ds.getD i pdD).pl=x∧e = .returned (.tuple #[pdv (ds.getD i pdD),.bool true]))∧Below w.heap.size w w':=by
 obtain⟨a,cap,rfl⟩:=pds_slice h
 have B0:Below w.heap.size w (w.alloc (rmb up (.slice a ds.length cap))):=(Below.refl _ _).alloc (Nat.le_refl _) _
 have B1:=B0.alloc B0.size (pdb pdD)
 have HALL:Hid (∀V,Below ((w.alloc (rmb up (.slice a ds.length cap))).alloc (pdb pdD)).heap.size ((w.alloc (rmb up (.slice a ds.length cap))).alloc (pdb pdD)) V→(V.cell? ⟨w.heap.size,0,none⟩=some (.int .i64 up)∧V.cell? ⟨w.heap.size,1,none⟩=some (.slice a ds.length cap))∧V.heap[w.heap.size+1]? = some (pdb pdD)∧PdsAt V (.slice a ds.length cap) ds∧Below w.heap.size w V∧w.heap.size+2≤V.heap.size):=by
  intro V hV
  have T1:=heap_alloc_new (w.alloc (rmb up (.slice a ds.length cap))) (pdb pdD)
  have T2:Below (w.heap.size+1) (w.alloc (rmb up (.slice a ds.length cap))) V:=((Below.refl _ _).alloc (by simp) _).trans (hV.mono (by simp))
  have q0:V.heap[w.heap.size]? = some (rmb up (.slice a ds.length cap)):=(T2.block _ (by omega)).trans (heap_alloc_new w _)
  have q1:V.heap[w.heap.size+1]? = some (pdb pdD):=(hV.block (w.heap.size+1) (by simp)).trans ((congrArg (fun k=>((w.alloc (rmb up (.slice a ds.length cap))).alloc (pdb pdD)).heap[k]?) (show w.heap.size+1=(w.alloc (rmb up (.slice a ds.length cap))).heap.size by simp)).trans T1)
  have hsz:=hV.size
  exact⟨(rmb_cells q0).1,q1,pdsAt_below h (B1.trans (hV.mono B1.size)),B1.trans (hV.mono B1.size),by simpa using hsz⟩
 have HS:Hid _:=hs
 have HR:Hid _:=hr
 clear h hs hr B0 B1
 go_enter Tryz.func197,Tryz.ntmps197
 go_upto_region 1 with fail
 generalize (w.alloc _).alloc _=X at *
 obtain⟨⟨z0,z1⟩,_,p1,_,sX⟩:=HALL.out X (Below.refl _ _)
 have BS:=binSearch_any p1 HS.out HR.out hl x
 clear p1
 go_wp2_with fail
 refine BS.mono ?_
 clear BS
 rintro e w3 ⟨i,hE,rfl,b3⟩
 clear z0 z1
 obtain⟨⟨z0,z1⟩,q1,p3,bw,s3⟩:=HALL.out w3 b3
 obtain⟨⟨y0,y1,y2,y3,y4,y5,y6,y7⟩,f0,f1,f2,f3,f4,f5,f6,f7⟩:=pdb_cells q1
 have HQ1:Hid _:=q1
 have HBW:Hid _:=bw
 have HE:Hid _:=hE
 obtain⟨bb,hbb⟩:∃bb,(decide (i<ds.length)&&decide ((ds.getD i pdD).pl=x))=bb:=⟨_,rfl⟩
 rw[hbb]
 cases bb
 ·have HN:Hid (hasP ds x=false):=hasP_no HR.out hE hbb
  clear q1 bw p3 hE hbb
  go_wp2_with fail
  exact bodyPost_ret (res_pd rfl rfl rfl (pdb_set HQ1.out pdD)) rfl ⟨fun _=>rfl,fun e=>absurd (HN.out.symm.trans e) (by decide),pdb_below HBW.out (by omega) pdD⟩
 ·rw[Bool.and_eq_true,decide_eq_true_eq,decide_eq_true_eq]at hbb
  obtain⟨hil,hix⟩:=hbb
  have HY:Hid (hasP ds x=true):=by have:=hasP_yes hil;rwa [hix]at this
  have HIX:Hid _:=hix
  obtain⟨a',cap',e,_,_,_,hcc⟩:=p3
  injection e with e1 e2 e3
  subst e1 e3
  obtain⟨b,off,rfl,hb,hcc⟩:=hcc (by omega)
  obtain⟨x0,x1,x2,x3,x4,x5,x6,x7⟩:=hcc i hil
  obtain⟨sa,sn,sc,hsv⟩:=HS.out _ (mem_getDP hil)
  clear hcc q1 bw hE hix
  obtain⟨d,hd⟩:∃d,ds.getD i pdD=d:=⟨_,rfl⟩
  rw[hd]at x0 x1 x2 x3 x4 x5 x6 x7 hsv HIX
  have HD:Hid _:=hd
  clear hd
  obtain⟨ds',df,dc,dh,dp,dm,du,dl⟩:=d
  simp only at x0 x1 x2 x3 x4 x5 x6 x7 hsv
  subst hsv
  have hil':(i:Int)<(ds.length:Int):=by omega
  go_wp2_with fail
  exact bodyPost_ret (res_pd rfl rfl rfl (pdb_set HQ1.out ⟨ds',df,dc,dh,dp,dm,.slice sa sn sc,dl⟩)) rfl ⟨fun e=>absurd (HY.out.symm.trans e) (by decide),fun _=>⟨i,hil,by rw[HD.out];exact HIX.out,by rw[HD.out]⟩,pdb_below HBW.out (by omega) ⟨ds',df,dc,dh,dp,dm,.slice sa sn sc,dl⟩⟩
def ledB (ds:List Pd) (x:Int):Bool:=isA x&&hasP ds (av x)
set_option maxHeartbeats 8000000 in
theorem ledBy_any {w:World} {up:Int} {v:Value} {ds:List Pd} (h:PdsAt w v ds) (hs:SlicesP ds) (hr:RiseP ds) (hl:ds.length≤1048576) (x:Int) (b1 : -9223372036854775808≤x) (b2:x≤9223372036854775807) :
    Calls Tryz.prog 181 #[rmv up v,.int .i64 x] w fun e w'=>(ledB ds x=false→e = .returned (.tuple #[pdv pdD,.bool false]))∧(ledB ds x=true→∃i,i<ds.length∧(ds.getD i pdD).pl=av x∧e = .returned (.tuple #[pdv (ds.getD i pdD),.bool true]))∧Below w.heap.size w w':=by
 obtain⟨a,cap,rfl⟩:=pds_slice h
 have B0:Below w.heap.size w (w.alloc (rmb up (.slice a ds.length cap))):=(Below.refl _ _).alloc (Nat.le_refl _) _
 have B1:=B0.alloc B0.size (pdb pdD)
 have HALL:Hid (∀V,Below ((w.alloc (rmb up (.slice a ds.length cap))).alloc (pdb pdD)).heap.size ((w.alloc (rmb up (.slice a ds.length cap))).alloc (pdb pdD)) V→(V.cell? ⟨w.heap.size,0,none⟩=some (.int .i64 up)∧V.cell? ⟨w.heap.size,1,none⟩=some (.slice a ds.length cap))∧V.heap[w.heap.size+1]? = some (pdb pdD)∧PdsAt V (.slice a ds.length cap) ds∧Below w.heap.size w V∧w.heap.size+2≤V.heap.size):=by
  intro V hV
  have T1:=heap_alloc_new (w.alloc (rmb up (.slice a ds.length cap))) (pdb pdD)
  have T2:Below (w.heap.size+1) (w.alloc (rmb up (.slice a ds.length cap))) V:=((Below.refl _ _).alloc (by simp) _).trans (hV.mono (by simp))
  have q0:V.heap[w.heap.size]? = some (rmb up (.slice a ds.length cap)):=(T2.block _ (by omega)).trans (heap_alloc_new w _)
  have q1:V.heap[w.heap.size+1]? = some (pdb pdD):=(hV.block (w.heap.size+1) (by simp)).trans ((congrArg (fun k=>((w.alloc (rmb up (.slice a ds.length cap))).alloc (pdb pdD)).heap[k]?) (show w.heap.size+1=(w.alloc (rmb up (.slice a ds.length cap))).heap.size by simp)).trans T1)
  have hsz:=hV.size
  exact⟨(rmb_cells q0).1,q1,pdsAt_below h (B1.trans (hV.mono B1.size)),B1.trans (hV.mono B1.size),by simpa using hsz⟩
 have HF:Hid (∀V,PdsAt V (.slice a ds.length cap) ds→∀y,Calls Tryz.prog 197 #[rmv up (.slice a ds.length cap),.int .i64 y] V fun e w'=>(hasP ds y=false→e = .returned (.tuple #[pdv pdD,.bool false]))∧(hasP ds y=true→∃i,i<ds.length∧(ds.getD i pdD).pl=y∧e = .returned (.tuple #[pdv (ds.getD i pdD),.bool true]))∧Below V.heap.size V w'):=fun V hV y=>find_any hV hs hr hl y
 have HS:Hid _:=hs
 have AO:Hid (∀V,Calls Tryz.prog 196 #[.int .i64 x] V fun e w'=>e = .returned (.tuple #[.int .i64 (av x),.bool (isA x)])∧w'=V):=fun V=>addrOf_any x V b1 b2
 unfold ledB
 clear h hs hr B0 B1 b1 b2
 cases hA:isA x
 ·simp only[hA]at AO
  generalize av x=ax at *
  clear HF
  go_enter Tryz.func181,Tryz.ntmps181
  go_upto_region 1 with fail
  generalize (w.alloc _).alloc _=X at *
  obtain⟨_,q1,_,bw,sX⟩:=HALL.out X (Below.refl _ _)
  obtain⟨⟨y0,y1,y2,y3,y4,y5,y6,y7⟩,f0,f1,f2,f3,f4,f5,f6,f7⟩:=pdb_cells q1
  have HQ1:Hid _:=q1
  have HBW:Hid _:=bw
  have AX:=AO.out X
  clear q1 bw HALL AO
  go_wp2_with (go_at_call 196;refine AX.mono ?_;clear AX;rintro e w3 ⟨rfl,hw3⟩;rw[hw3];clear hw3 w3)
  exact bodyPost_ret (res_pd rfl rfl rfl (pdb_set HQ1.out pdD)) rfl ⟨fun _=>rfl,fun e=>(by simp at e),pdb_below HBW.out (by omega) pdD⟩
 ·simp only[hA]at AO
  generalize av x=ax at *
  rw[Bool.true_and]
  go_enter Tryz.func181,Tryz.ntmps181
  go_upto_region 1 with fail
  generalize (w.alloc _).alloc _=X at *
  obtain⟨⟨z0,z1⟩,_,pX,_,sX⟩:=HALL.out X (Below.refl _ _)
  have AX:=AO.out X
  have FX:=HF.out X pX ax
  clear AO HF pX
  cases hP:hasP ds ax
  ·have F0:=FX.mono (fun e w' (hh:_∧_∧_)=>(⟨hh.1 hP,hh.2.2⟩:e = .returned (.tuple #[pdv pdD,.bool false])∧Below X.heap.size X w'))
   clear FX
   go_wp2_with (first|(go_at_call 196;refine AX.mono ?_;clear AX;rintro e w3 ⟨rfl,hw3⟩;rw[hw3];clear hw3 w3)|(go_at_call 197;refine F0.mono ?_;clear F0 z0 z1;rintro e w4 ⟨rfl,b4⟩;obtain⟨_,q1,_,bw,s4⟩:=HALL.out w4 b4;obtain⟨⟨y0,y1,y2,y3,y4,y5,y6,y7⟩,f0,f1,f2,f3,f4,f5,f6,f7⟩:=pdb_cells q1;have HQ1:Hid _:=q1;have HBW:Hid _:=bw;clear q1 bw b4))
   exact bodyPost_ret (res_pd rfl rfl rfl (pdb_set HQ1.out pdD)) rfl ⟨fun _=>rfl,fun e=>(by rw[hP]at e;cases e),pdb_below HBW.out (by omega) pdD⟩
  ·have F0:=FX.mono (fun e w' (hh:_∧_∧_)=>(⟨hh.2.1 hP,hh.2.2⟩:(∃i,i<ds.length∧(ds.getD i pdD).pl=ax∧e = .returned (.tuple #[pdv (ds.getD i pdD),.bool true]))∧Below X.heap.size X w'))
   clear FX
   go_wp2_with (first|(go_at_call 196;refine AX.mono ?_;clear AX;rintro e w3 ⟨rfl,hw3⟩;rw[hw3];clear hw3 w3)|(go_at_call 197;refine F0.mono ?_;clear F0 z0 z1;rintro e w4 ⟨⟨i,hil,hpl,rfl⟩,b4⟩;obtain⟨_,q1,_,bw,s4⟩:=HALL.out w4 b4;obtain⟨⟨y0,y1,y2,y3,y4,y5,y6,y7⟩,f0,f1,f2,f3,f4,f5,f6,f7⟩:=pdb_cells q1;have HQ1:Hid _:=q1;have HBW:Hid _:=bw;obtain⟨sa,sn,sc,hsv⟩:=HS.out _ (mem_getDP hil);obtain⟨d,hd⟩:∃d,ds.getD i pdD=d:=⟨_,rfl⟩;rw[hd]at hsv hpl ⊢; have HD:Hid _:=hd;have HPL:Hid _:=hpl;obtain⟨ds',df,dc,dh,dp,dm,du,dl⟩:=d;simp only at hsv;subst hsv;clear q1 bw b4 hd hpl))
   exact bodyPost_ret (res_pd rfl rfl rfl (pdb_set HQ1.out ⟨ds',df,dc,dh,dp,dm,.slice sa sn sc,dl⟩)) rfl ⟨fun e=>(by rw[hP]at e;cases e),fun _=>⟨i,hil,by rw[HD.out];exact HPL.out,by rw[HD.out]⟩,pdb_below HBW.out (by omega) ⟨ds',df,dc,dh,dp,dm,.slice sa sn sc,dl⟩⟩
def holdW (ds:List Pd) (x:Int):Bool:=if isA x then hasP ds (av x) else isW x
set_option maxHeartbeats 4000000 in
theorem holds_any {w:World} {up:Int} {v:Value} {ds:List Pd} (h:PdsAt w v ds) (hs:SlicesP ds) (hr:RiseP ds) (hl:ds.length≤1048576) (x:Int) (b1 : -9223372036854775808≤x) (b2:x≤9223372036854775807) :
    Calls Tryz.prog 195 #[rmv up v,.int .i64 x] w fun e w'=>e = .returned (.bool (holdW ds x))∧Below w.heap.size w w':=by
 obtain⟨a,cap,rfl⟩:=pds_slice h
 have B0:Below w.heap.size w (w.alloc (rmb up (.slice a ds.length cap))):=(Below.refl _ _).alloc (Nat.le_refl _) _
 have HB0:Hid _:=B0
 have AO:=isAddr_any x (w.alloc (rmb up (.slice a ds.length cap))) b1 b2
 cases hA:isA x
 ·rw[hA]at AO
  have WO:=wordOk_any x (w.alloc (rmb up (.slice a ds.length cap))) b1 b2
  rw[show holdW ds x=isW x by unfold holdW;rw[hA];rfl]
  generalize isW x=ww at *
  clear h hs hr B0 hA b1 b2
  go_enter Tryz.func195,Tryz.ntmps195
  go_wp2_with (first|(go_at_call 198;refine AO.mono ?_;clear AO;rintro e w3 ⟨rfl,hw3⟩;rw[hw3];clear hw3 w3)|(go_at_call 210;refine WO.mono ?_;clear WO;rintro e w4 ⟨rfl,_,b4⟩;have HB4:Hid _:=b4;clear b4))
  go_ret
  exact⟨rfl,HB0.out.trans (HB4.out.mono HB0.out.size)⟩
 ·rw[hA]at AO
  have FI:=ledBy_any (up:=up) (pdsAt_below h B0) hs hr hl x b1 b2
  rw[show holdW ds x=ledB ds x by unfold holdW ledB;rw[hA];simp]
  obtain⟨⟨k0,k1⟩,_⟩:=rmb_cells (heap_alloc_new w (rmb up (.slice a ds.length cap)))
  have HSL:Hid _:=hs
  clear h hs hr B0 hA b1 b2
  go_enter Tryz.func195,Tryz.ntmps195
  go_upto_region 1 with fail
  generalize w.alloc (rmb up (.slice a ds.length cap))=X at *
  cases hP:ledB ds x
  ·have F0:=FI.mono (fun e w' (hh:_∧_∧_)=>(⟨hh.1 hP,hh.2.2⟩:e = .returned (.tuple #[pdv pdD,.bool false])∧Below X.heap.size X w'))
   clear HSL FI
   go_wp2_with (first|(go_at_call 198;refine AO.mono ?_;clear AO;rintro e w3 ⟨rfl,hw3⟩;rw[hw3];clear hw3 w3)|(go_at_call 181;refine F0.mono ?_;clear F0;rintro e w4 ⟨rfl,b4⟩;have HB4:Hid _:=b4;clear b4))
   have BF:=HB0.out.trans (HB4.out.mono HB0.out.size)
   have HBF:Hid _:=BF
   clear BF
   go_ret
   exact⟨by rw[hP];rfl,HBF.out.alloc HBF.out.size _⟩
  ·have F0:=FI.mono (fun e w' (hh:_∧_∧_)=>(⟨hh.2.1 hP,hh.2.2⟩:(∃i,i<ds.length∧(ds.getD i pdD).pl=av x∧e = .returned (.tuple #[pdv (ds.getD i pdD),.bool true]))∧Below X.heap.size X w'))
   clear FI
   go_wp2_with (first|(go_at_call 198;refine AO.mono ?_;clear AO;rintro e w3 ⟨rfl,hw3⟩;rw[hw3];clear hw3 w3)|(go_at_call 181;refine F0.mono ?_;clear F0;rintro e w4 ⟨⟨i,hil,_,rfl⟩,b4⟩;obtain⟨sa,sn,sc,hsv⟩:=HSL.out _ (mem_getDP hil);obtain⟨d,hd⟩:∃d,ds.getD i pdD=d:=⟨_,rfl⟩;rw[hd]at hsv ⊢; obtain⟨ds',df,dc,dh,dp,dm,du,dl⟩:=d;simp only at hsv;subst hsv;have HB4:Hid _:=b4;clear b4 hd HSL))
   have BF:=HB0.out.trans (HB4.out.mono HB0.out.size)
   have HBF:Hid _:=BF
   clear BF
   go_ret
   exact⟨by rw[hP];rfl,HBF.out.alloc HBF.out.size _⟩
def holdL (ds:List Pd) (xs:List Int):Bool:=xs.all (holdW ds)
theorem holdL_no {ds:List Pd} {xs:List Int} {k:Nat} (hk:k<xs.length) (h:holdW ds (xs.getD k 0)=false):holdL ds xs=false:=by
 unfold holdL
 rw[List.all_eq_false]
 refine⟨xs.getD k 0,?_,by rw[h];decide⟩
 rw[List.getD_eq_getElem?_getD,List.getElem?_eq_getElem hk];exact List.getElem_mem hk
theorem holdL_yes {ds:List Pd} {xs:List Int} (h:∀m,m<xs.length→holdW ds (xs.getD m 0)=true):holdL ds xs=true:=by
 unfold holdL
 rw[List.all_eq_true]
 intro x hx
 obtain⟨m,hm,rfl⟩:=List.getElem_of_mem hx
 have:=h m hm
 rwa [List.getD_eq_getElem?_getD,List.getElem?_eq_getElem hm]at this
set_option maxHeartbeats 4000000 in
theorem holdsAll_any {w:World} {up:Int} {v:Value} {ds:List Pd} (h:PdsAt w v ds) (hs:SlicesP ds) (hr:RiseP ds) (hl:ds.length≤1048576) {u:Value} {xs:List Int} (hx:IntsAt w u xs) (hxl:xs.length≤1048576) (ha:AllI xs) :
    Calls Tryz.prog 179 #[rmv up v,u] w fun e w'=>e = .returned (.bool (holdL ds xs))∧Below w.heap.size w w':=by
 have HX:Hid _:=hx
 have HA:Hid _:=ha
 obtain⟨a,cap,rfl⟩:=pds_slice h
 obtain⟨a2,cap2,rfl,_,_,_,_⟩:=hx
 obtain⟨R,hR⟩:∃R,holdL ds xs=R:=⟨_,rfl⟩
 have HR:Hid _:=hR
 have B0:Below w.heap.size w (w.alloc (rmb up (.slice a ds.length cap))):=(Below.refl _ _).alloc (Nat.le_refl _) _
 have HALL:Hid (∀V,Below (w.alloc (rmb up (.slice a ds.length cap))).heap.size (w.alloc (rmb up (.slice a ds.length cap))) V→(V.cell? ⟨w.heap.size,0,none⟩=some (.int .i64 up)∧V.cell? ⟨w.heap.size,1,none⟩=some (.slice a ds.length cap))∧Below w.heap.size w V∧IntsAt V (.slice a2 xs.length cap2) xs∧∀x,-9223372036854775808≤x→x≤9223372036854775807→Calls Tryz.prog 195 #[rmv up (.slice a ds.length cap),.int .i64 x] V fun e w'=>e = .returned (.bool (holdW ds x))∧Below V.heap.size V w'):=by
  intro V hV
  have q0:V.heap[w.heap.size]? = some (rmb up (.slice a ds.length cap)):=(hV.block _ (by simp)).trans (heap_alloc_new w _)
  have B:=B0.trans (hV.mono B0.size)
  exact⟨(rmb_cells q0).1,B,intsAt_below HX.out B,fun x b1 b2=>holds_any (pdsAt_below h B) hs hr hl x b1 b2⟩
 rw[hR]
 clear h hs hr B0 hR ha
 go_enter Tryz.func179,Tryz.ntmps179
 go_upto_region 1 with fail
 generalize w.alloc (rmb up (.slice a ds.length cap))=X at *
 go_wp2_with fail
 go_loopw [6,9] (fun _ q wr=>∃k:Nat,k≤xs.length∧q = .int .i64 (k:Int)∧(∀m,m<k→holdW ds (xs.getD m 0)=true)∧Below X.heap.size X wr) (fun _ q _=>xs.length-(intOf q).toNat)
 case atStart=>exact⟨0,Nat.zero_le _,rfl,fun m hm=>by omega,Below.refl _ _⟩
 case round=>
  obtain⟨k,hk,rfl,hall,hB⟩:=hrel
  have HB:Hid _:=hB
  obtain⟨⟨z0,z1⟩,bw,i1,hC⟩:=HALL.out wr hB
  have HBW:Hid _:=bw
  by_cases hlt:k<xs.length
  ·obtain⟨b,off,ea,_,x0⟩:=ints_cellI i1 hlt
   subst ea
   obtain⟨y,hy⟩:∃y,xs.getD k 0=y:=⟨_,rfl⟩
   have hyb:=HA.out y (by rw[←hy,List.getD_eq_getElem?_getD,List.getElem?_eq_getElem hlt];exact List.getElem_mem hlt)
   have CL:=hC y hyb.1 hyb.2
   rw[hy]at x0
   have hlt':(k:Int)<(xs.length:Int):=by omega
   have HAL:Hid _:=hall
   have HY:Hid _:=hy
   clear hC i1 bw hB hyb hall hy
   cases hw:holdW ds y
   ·rw[hw]at CL
    have HF:Hid (R=false):=by show _=_;rw[←HR.out];exact holdL_no hlt (by rw[HY.out];exact hw)
    clear hw
    go_wp2_with (go_at_call 195;refine CL.mono ?_;clear CL;rintro e w3 ⟨rfl,b3⟩;have HB3:Hid _:=HBW.out.trans (b3.mono HBW.out.size);clear b3)
    go_ret
    exact⟨by rw[HF.out];rfl,HB3.out⟩
   ·rw[hw]at CL
    have HV:Hid (∀m,m<k+1→holdW ds (xs.getD m 0)=true):=fun m hm=>by
     by_cases e:m=k
     ·rw[e,HY.out];exact hw
     ·exact HAL.out m (by omega)
    clear hw
    go_wp2_with (go_at_call 195;refine CL.mono ?_;clear CL;rintro e w3 ⟨rfl,b3⟩;have HB3:Hid _:=HB.out.trans (b3.mono HB.out.size);clear b3)
    exact⟨⟨k+1,by omega,by go_num,HV.out,HB3.out⟩,by simp[intOf];omega⟩
  ·have hlt':¬(k:Int)<(xs.length:Int):=by omega
   have HF:Hid (R=true):=by show _=_;rw[←HR.out];exact holdL_yes (fun m hm=>hall m (by omega))
   clear hC i1 bw hB hall
   go_wp2
   go_ret
   exact⟨by rw[HF.out];rfl,HBW.out⟩
structure SlotsP (w:World) (ds:List Pd) (sl:Pd→List Int):Prop where
 call:∀V,Below w.heap.size w V→∀i,i<ds.length→Calls Tryz.prog 158 #[cv (ds.getD i pdD).s (ds.getD i pdD).f (ds.getD i pdD).c (ds.getD i pdD).h (ds.getD i pdD).p (ds.getD i pdD).m (ds.getD i pdD).u] V fun e w'=>∃ua un uc,e = .returned (.slice ua un uc)∧IntsAt w' (.slice ua un uc) (sl (ds.getD i pdD))∧Below V.heap.size V w'
 len:∀i,i<ds.length→(sl (ds.getD i pdD)).length≤1048576
 num:∀i,i<ds.length→AllI (sl (ds.getD i pdD))
def holdS (ds:List Pd) (sl:Pd→List Int):Bool:=ds.all (fun d=>holdL ds (sl d))
theorem holdS_no {ds:List Pd} {sl:Pd→List Int} {k:Nat} (hk:k<ds.length) (h:holdL ds (sl (ds.getD k pdD))=false):holdS ds sl=false:=by
 unfold holdS
 rw[List.all_eq_false]
 exact⟨_,mem_getDP hk,by rw[h];decide⟩
theorem holdS_yes {ds:List Pd} {sl:Pd→List Int} (h:∀m,m<ds.length→holdL ds (sl (ds.getD m pdD))=true):holdS ds sl=true:=by
 unfold holdS
 rw[List.all_eq_true]
 intro x hx
 obtain⟨m,hm,rfl⟩:=List.getElem_of_mem hx
 have:=h m hm
 rwa [List.getD_eq_getElem?_getD,List.getElem?_eq_getElem hm]at this
set_option maxHeartbeats 8000000 in
theorem holdsSlots_any {w:World} {up:Int} {v:Value} {ds:List Pd} {sl:Pd→List Int} (h:PdsAt w v ds) (hs:SlicesP ds) (hr:RiseP ds) (hl:ds.length≤1048576) (hS:SlotsP w ds sl) :
    Calls Tryz.prog 152 #[rmv up v] w fun e w'=>e = .returned (.bool (holdS ds sl))∧Below w.heap.size w w':=by
 obtain⟨a,cap,rfl⟩:=pds_slice h
 have HP:Hid _:=h
 have HSL:Hid _:=hs
 obtain⟨R,hR⟩:∃R,holdS ds sl=R:=⟨_,rfl⟩
 have HR:Hid _:=hR
 have B0:Below w.heap.size w (w.alloc (rmb up (.slice a ds.length cap))):=(Below.refl _ _).alloc (Nat.le_refl _) _
 have HALL:Hid (∀V,Below (w.alloc (rmb up (.slice a ds.length cap))).heap.size (w.alloc (rmb up (.slice a ds.length cap))) V→(V.cell? ⟨w.heap.size,0,none⟩=some (.int .i64 up)∧V.cell? ⟨w.heap.size,1,none⟩=some (.slice a ds.length cap))∧Below w.heap.size w V):=by
  intro V hV
  have q0:V.heap[w.heap.size]? = some (rmb up (.slice a ds.length cap)):=(hV.block _ (by simp)).trans (heap_alloc_new w _)
  exact⟨(rmb_cells q0).1,B0.trans (hV.mono B0.size)⟩
 have HCL:Hid (∀V,Below w.heap.size w V→∀(u:Value) (xs:List Int),IntsAt V u xs→xs.length≤1048576→AllI xs→Calls Tryz.prog 179 #[rmv up (.slice a ds.length cap),u] V fun e w'=>e = .returned (.bool (holdL ds xs))∧Below V.heap.size V w'):=fun V hV u xs h1 h2 h3=>holdsAll_any (pdsAt_below HP.out hV) hs hr hl h1 h2 h3
 have HSP:Hid _:=hS
 rw[hR]
 clear h hs hr B0 hR hS
 go_enter Tryz.func152,Tryz.ntmps152
 go_upto_region 1 with fail
 generalize w.alloc (rmb up (.slice a ds.length cap))=X at *
 obtain⟨⟨z0,z1⟩,_⟩:=HALL.out X (Below.refl _ _)
 go_wp2_with fail
 clear z0 z1
 go_loopw [4,8] (fun _ q wr=>∃k:Nat,k≤ds.length∧q = .int .i64 (k:Int)∧(∀m,m<k→holdL ds (sl (ds.getD m pdD))=true)∧Below X.heap.size X wr) (fun _ q _=>ds.length-(intOf q).toNat)
 case atStart=>exact⟨0,Nat.zero_le _,rfl,fun m hm=>by omega,Below.refl _ _⟩
 case round=>
  obtain⟨k,hk,rfl,hall,hB⟩:=hrel
  have HB:Hid _:=hB
  obtain⟨_,bw⟩:=HALL.out wr hB
  have HBW:Hid _:=bw
  by_cases hlt:k<ds.length
  ·obtain⟨b,off,ea,hbl,k0,k1,k2,k3,k4,k5,k6,k7⟩:=pds_cell (pdsAt_below HP.out bw) hlt
   subst ea
   obtain⟨sa,sn,sc,hsv⟩:=HSL.out _ (mem_getDP hlt)
   have hlt':(k:Int)<(ds.length:Int):=by omega
   have HAL:Hid _:=hall
   have SC:=fun V hV=>HSP.out.call V hV k hlt
   have sl1:=HSP.out.len k hlt
   have sl2:=HSP.out.num k hlt
   obtain⟨d,hd⟩:∃d,ds.getD k pdD=d:=⟨_,rfl⟩
   rw[hd]at k0 k1 k2 k3 k4 k5 k6 k7 hsv sl1 sl2
   simp only[hd]at SC
   obtain⟨xs,hxs⟩:∃xs,sl d=xs:=⟨_,rfl⟩
   rw[hxs]at sl1 sl2
   simp only[hxs]at SC
   obtain⟨P,hPP⟩:∃P,holdL ds xs=P:=⟨_,rfl⟩
   have HF:Hid (P=false→R=false):=fun e=>by rw[←HR.out];exact holdS_no hlt (by rw[hd,hxs,hPP];exact e)
   have HV:Hid (P=true→∀m,m<k+1→holdL ds (sl (ds.getD m pdD))=true):=fun e m hm=>by
    by_cases e':m=k
    ·rw[e',hd,hxs,hPP];exact e
    ·exact HAL.out m (by omega)
   have HC2:Hid (∀V,Below w.heap.size w V→∀(u:Value),IntsAt V u xs→Calls Tryz.prog 179 #[rmv up (.slice (some ⟨b,off,none⟩) ds.length cap),u] V fun e w'=>e = .returned (.bool P)∧Below V.heap.size V w'):=fun V hV u h1=>by
    have:=HCL.out V hV u xs h1 sl1 sl2
    rwa [hPP]at this
   have HSC:Hid _:=SC
   clear SC HCL hd hxs hPP hall bw hB sl1 sl2
   obtain⟨ds',df,dc,dh,dp,dm,du,dl⟩:=d
   simp only at k0 k1 k2 k3 k4 k5 k6 k7 hsv HSC
   subst hsv
   go_upto_region 4 with fail
   have BY:Below wr.heap.size wr (wr.alloc (pdb ⟨ds',df,dc,dh,dp,dm,.slice sa sn sc,dl⟩)):=(Below.refl _ _).alloc (Nat.le_refl _) _
   have HBY:Hid (Below X.heap.size X (wr.alloc (pdb ⟨ds',df,dc,dh,dp,dm,.slice sa sn sc,dl⟩))):=HB.out.trans (BY.mono HB.out.size)
   obtain⟨⟨p0,p1,p2,p3,p4,p5,p6,p7⟩,_⟩:=pdb_cells (heap_alloc_new wr (pdb ⟨ds',df,dc,dh,dp,dm,.slice sa sn sc,dl⟩))
   simp only at p0 p1 p2 p3 p4 p5 p6 p7
   clear BY k0 k1 k2 k3 k4 k5 k6 k7
   generalize hY:wr.alloc (pdb ⟨ds',df,dc,dh,dp,dm,.slice sa sn sc,dl⟩)=Y at *
   clear hY
   obtain⟨⟨z0,z1⟩,_⟩:=HALL.out Y HBY.out
   have HG:Hid (∀(V w':World),Below V.heap.size V w'→Below Y.heap.size Y V→(w'.cell? ⟨w.heap.size,0,none⟩=some (.int .i64 up)∧w'.cell? ⟨w.heap.size,1,none⟩=some (.slice (some ⟨b,off,none⟩) ds.length cap))∧Below X.heap.size X w'∧Below w.heap.size w w'):=by
    intro V w' h1 h2
    have hX:Below X.heap.size X w':=HBY.out.trans ((h2.trans (h1.mono h2.size)).mono HBY.out.size)
    obtain⟨hz,hw⟩:=HALL.out w' hX
    exact⟨hz,hX,hw⟩
   have HGB:Hid (∀V,Below Y.heap.size Y V→Below w.heap.size w V):=fun V hV=>(HG.out Y V hV (Below.refl _ _)).2.2
   go_cut [17] from 12 to 16 (fun v wz=>v = .bool (!P)∧Hid (Below X.heap.size X wz))
   case first=>
    go_region_law (first
     |(go_simp;go_at_call 158;refine Calls.mono (HSC.out _ (HGB.out _ ⟨rfl,rfl,rfl,Nat.le_refl _,fun _ _=>rfl⟩)) ?_;rintro e w5 ⟨ua,un,uc,rfl,i5,b5⟩;obtain⟨⟨t0,t1⟩,x5,y5⟩:=HG.out _ _ b5 ⟨rfl,rfl,rfl,Nat.le_refl _,fun _ _=>rfl⟩;have HI5:Hid _:=i5;have HX5:Hid _:=x5;have HW5:Hid _:=y5;clear HSC i5 x5 y5 b5 HG HGB)
     |(go_simp;go_at_call 179;refine Calls.mono (HC2.out _ ⟨HW5.out.os,HW5.out.tape,HW5.out.output,HW5.out.size,HW5.out.block⟩ _ HI5.out) ?_;rintro e w6 ⟨rfl,b6⟩;have HX6:Hid (Below X.heap.size X w6):=HX5.out.trans ((⟨b6.os,b6.tape,b6.output,b6.size,b6.block⟩:Below w5.heap.size w5 w6).mono HX5.out.size);clear HC2 b6))
    all_goals (go_wp2_with fail)
    all_goals go_meet
    all_goals exact⟨rfl,HX6.out⟩
   obtain⟨rfl,bc⟩:=hcut
   clear z0 z1 p0 p1 p2 p3 p4 p5 p6 p7 HC2 HSC HG HGB
   cases P
   ·have HF0:Hid _:=HF.out rfl
    obtain⟨_,bw⟩:=HALL.out wc bc.out
    have HBE:Hid _:=bw
    clear bw
    go_wp2
    go_ret
    exact⟨by rw[HF0.out];rfl,HBE.out⟩
   ·have HV0:Hid _:=HV.out rfl
    go_wp2
    exact⟨⟨k+1,by omega,by go_num,HV0.out,bc.out⟩,by simp[intOf];omega⟩
  ·have hlt':¬(k:Int)<(ds.length:Int):=by omega
   have HF:Hid (R=true):=by show _=_;rw[←HR.out];exact holdS_yes (fun m hm=>hall m (by omega))
   clear hB hall bw
   go_wp2
   go_ret
   exact⟨by rw[HF.out];rfl,HBW.out⟩
end Go.Proofs.YtkiognecebgaiaaGreatDoor.hp
namespace Go.Proofs.YtkiognecebgaiaaGreatDoor.hp
open Go.RowKit rows heads words walks
set_option maxRecDepth 100000
set_option linter.unusedVariables false
theorem walkL_up (xs:List Int) (t:Nat) (ht:t≤xs.length):∀(n k:Nat) (l:List Int),walkL xs t n k=some l→l.Pairwise (· < ·):=by
 intro n
 induction n with
 |zero=>
  intro k l h
  unfold walkL at h
  split at h
  ·cases h
  ·cases h;exact List.Pairwise.nil
 |succ n ih=>
  intro k l h
  by_cases h1:k<t
  ·by_cases hb:chunk xs k=0∨(k:Int)+chunk xs k > t
   ·rw[walkL_bad _ _ _ _ h1 hb]at h;cases h
   ·rw[walkL_step _ _ _ _ h1 hb]at h
    obtain⟨l',hl',rfl⟩:=Option.map_eq_some_iff.1 h
    refine List.Pairwise.cons (fun x hx => ?_) (ih _ _ hl')
    obtain⟨j,e,b,_,_⟩:=walkL_mem xs t ht _ _ _ hl' x hx
    have:=chunk_bounds xs k
    omega
  ·rw[walkL_end _ _ _ _ h1]at h
   cases h;exact List.Pairwise.nil
theorem walked_up (xs:List Int) (f t:Int):(walked xs f t).Pairwise (· < ·)∧∀x ∈ walked xs f t,f≤x∧x<t∧0≤x:=by
 unfold walked walkR
 split
 ·rename_i hr
  simp only[rangeOk,Bool.and_eq_true,decide_eq_true_eq]at hr
  cases e:walkO xs f.toNat t.toNat with
  |none=>simp
  |some l=>
   refine⟨walkL_up xs t.toNat (by omega) _ _ _ e,fun x hx => ?_⟩
   obtain⟨j,a,b,c,d⟩:=walkL_mem xs t.toNat (by omega) _ _ _ e x (by simpa using hx)
   omega
 ·simp
theorem pdsOf_up {a:Option Addr} {xs:List Int} {ps:List Int} (h:ps.Pairwise (· < ·)) (h0:∀x ∈ ps,0≤x):(pdsOf a xs ps).Pairwise (fun d e=>d.pl<e.pl):=by
 unfold pdsOf
 rw[List.pairwise_map]
 refine h.imp_of_mem fun {x y} hx hy hxy => ?_
 have:=h0 x hx
 have:=h0 y hy
 show ((x.toNat:Nat):Int)<(y.toNat:Nat)
 omega
theorem riseP_of {ds:List Pd} (h:ds.Pairwise (fun d e=>d.pl<e.pl)):RiseP ds:=by
 intro i j hij hj
 have:=List.pairwise_iff_getElem.1 h i j (by omega) hj hij
 simpa [List.getD_eq_getElem?_getD,List.getElem?_eq_getElem hj,List.getElem?_eq_getElem (show i<ds.length by omega)] using this
theorem objs_rise {a:Option Addr} {H:Hp} (hn:numB H=true):RiseP (objsP a H):=by
 obtain⟨N⟩:=numN hn
 have h1:=walked_up H.row (frO H) (toO H)
 have h2:=walked_up H.row (2*H.half) (2*H.half+H.old)
 have et:toO H=frO H+H.top:=rfl
 refine riseP_of ?_
 unfold objsP
 rw[List.pairwise_append]
 refine⟨pdsOf_up h1.1 (fun x hx=>(h1.2 x hx).2.2),(pdsOf_up h2.1 (fun x hx=>(h2.2 x hx).2.2)).filter _,fun d hd e he => ?_⟩
 obtain⟨x,hx,rfl⟩:=List.mem_map.1 hd
 obtain⟨y,hy,rfl⟩:=List.mem_map.1 (List.mem_filter.1 he).1
 have q1:=h1.2 x hx
 have q2:=h2.2 y hy
 have:=N.lt
 have:=N.ef
 have:=N.et
 have:=N.eh
 show ((x.toNat:Nat):Int)<(y.toNat:Nat)
 omega
def cnP (d:Pd):Nat:=if d.f=7 then 1 else d.s.toNat
def slP (xs:List Int) (d:Pd):List Int:=(xs.drop (d.pl.toNat+1)).take (cnP d)
theorem chunk_fits {xs:List Int} {j:Nat} (h:chunk xs j≠0) (h6:uF (xs.getD j 0)≠6):0≤uS (xs.getD j 0)∧1+uS (xs.getD j 0)≤chunk xs j∧2≤chunk xs j∧(j:Int)+chunk xs j≤xs.length:=by
 obtain⟨s1,s2⟩:=uS_bounds (xs.getD j 0)
 have sb:=sz_bounds s1 s2
 have e:chunk xs j=sz (uS (xs.getD j 0)):=by
  unfold chunk at h ⊢
  by_cases h0:(ok (xs.getD j 0) && !uM (xs.getD j 0))=true
  ·rw[if_pos h0,if_neg h6]at h ⊢
   by_cases h3:(j:Int)+sz (uS (xs.getD j 0))≤xs.length∧(uF (xs.getD j 0)=7→isA (xs.getD (j+1) 0)=true)
   ·rw[if_pos h3]
   ·rw[if_neg h3]at h;exact absurd rfl h
  ·rw[if_neg h0]at h;exact absurd rfl h
 have b:=chunk_bounds xs j
 omega
def InRow (a:Option Addr) (xs:List Int) (d:Pd):Prop:=∃j:Nat,d=pdOf a xs j∧chunk xs j≠0∧uF (xs.getD j 0)≠6
theorem objs_in {a:Option Addr} {H:Hp} (hr:roomB a H=true):∀d ∈ objsP a H,InRow a H.row d:=by
 unfold roomB at hr
 simp only[Bool.and_eq_true,Bool.not_eq_true']at hr
 have hu:=hr.1.1.2
 intro d hd
 unfold objsP at hd
 rcases List.mem_append.1 hd with hd|hd
 ·have h6:=List.any_eq_false.1 hu d hd
  obtain⟨x,hx,rfl⟩:=List.mem_map.1 hd
  obtain⟨j,rfl,_,_,hc⟩:=walked_mem hx
  refine⟨j,by simp,hc,fun e=>h6 ?_⟩
  show ((uF (H.row.getD (j:Int).toNat 0)==6) || _)=true
  rw[Int.toNat_natCast,e]
  rfl
 ·obtain⟨hd,h6⟩:=List.mem_filter.1 hd
  obtain⟨x,hx,rfl⟩:=List.mem_map.1 hd
  obtain⟨j,rfl,_,_,hc⟩:=walked_mem hx
  refine⟨j,by simp,hc,fun e => ?_⟩
  have h6':(!(uF (H.row.getD (j:Int).toNat 0)==6))=true:=h6
  rw[Int.toNat_natCast,e]at h6'
  cases h6'
theorem cnP_of (a:Option Addr) (xs:List Int) (j:Nat):cnP (pdOf a xs j)=if uF (xs.getD j 0)=7 then 1 else (uS (xs.getD j 0)).toNat:=rfl
theorem inRow_slots {a:Option Addr} {xs:List Int} {d:Pd} (h:InRow a xs d):(d.pl.toNat:Int)+1+cnP d≤xs.length:=by
 obtain⟨j,rfl,hc,h6⟩:=h
 have q:=chunk_fits hc h6
 have hj:(pdOf a xs j).pl.toNat=j:=by simp[pdOf]
 rw[hj,cnP_of]
 by_cases h7:uF (xs.getD j 0)=7
 ·rw[if_pos h7];omega
 ·rw[if_neg h7];omega
theorem slots_in {w:World} {b off cap:Nat} {xs:List Int} (hx:IntsAt w (.slice (some ⟨b,off,none⟩) xs.length cap) xs) (hl:xs.length≤1000) {d:Pd} (hd:InRow (some ⟨b,off,none⟩) xs d) :
    Calls Tryz.prog 158 #[cv d.s d.f d.c d.h d.p d.m d.u] w fun e w'=>∃ua un uc,e = .returned (.slice ua un uc)∧IntsAt w' (.slice ua un uc) (slP xs d)∧Below w.heap.size w w':=by
 have hsl:=inRow_slots hd
 obtain⟨j,rfl,hc,h6⟩:=hd
 have q:=chunk_fits hc h6
 have eu:(pdOf (some ⟨b,off,none⟩) xs j).u = .slice (some ⟨b,off+j,none⟩) (chunk xs j).toNat (chunk xs j).toNat:=piece_at b off j _ (by omega)
 rw[eu]
 have hn:(if uF (xs.getD j 0)=7 then 1 else uS (xs.getD j 0))=((cnP (pdOf (some ⟨b,off,none⟩) xs j):Nat):Int):=by
  rw[cnP_of]
  by_cases h7:uF (xs.getD j 0)=7
  ·rw[if_pos h7];first|rw[if_pos h7];rfl|omega
  ·rw[if_neg h7];first|(rw[if_neg h7];omega)|omega
 have hle:1+cnP (pdOf (some ⟨b,off,none⟩) xs j)≤(chunk xs j).toNat:=by
  rw[cnP_of]
  by_cases h7:uF (xs.getD j 0)=7
  ·rw[if_pos h7];first|rw[if_pos h7];rfl|omega
  ·rw[if_neg h7];first|(rw[if_neg h7];omega)|omega
 refine (slots_any _ _ _ _ _ _ b (off+j) (chunk xs j).toNat (cnP (pdOf (some ⟨b,off,none⟩) xs j)) w (by omega) hn hle).mono ?_
 rintro e w' ⟨rfl,hb⟩
 have hp:IntsAt w (piece (some ⟨b,off+j,none⟩) 1 (cnP (pdOf (some ⟨b,off,none⟩) xs j))) (slP xs (pdOf (some ⟨b,off,none⟩) xs j)):=by
  unfold slP
  have hj:(pdOf (some ⟨b,off,none⟩) xs j).pl.toNat=j:=by simp[pdOf]
  rw[hj]at hsl ⊢
  by_cases h0:cnP (pdOf (some ⟨b,off,none⟩) xs j)=0
  ·rw[h0,piece_none,List.take_zero]
   exact⟨some ⟨b,off+j,none⟩,0,rfl,by simp,by decide,fun _=>rfl,fun h=>by simp at h⟩
  ·rw[piece_at b (off+j) 1 _ (by omega)]
   have:=piece_is hx (by omega) (j+1) (cnP (pdOf (some ⟨b,off,none⟩) xs j)) (by omega)
   rw[piece_at b off (j+1) _ (by omega)]at this
   rwa [show off+j+1=off+(j+1) by omega]
 exact⟨_,_,_,rfl,intsAt_below hp hb,hb⟩
theorem slotsP_of {w:World} {b off cap:Nat} {xs:List Int} (hx:IntsAt w (.slice (some ⟨b,off,none⟩) xs.length cap) xs) (hl:xs.length≤1000) (ha:AllI xs) {ds:List Pd} (hd:∀d ∈ ds,InRow (some ⟨b,off,none⟩) xs d):SlotsP w ds (slP xs) where
 call V hV i hi:=slots_in (intsAt_below hx hV) hl (hd _ (mem_getDP hi))
 len i hi:=by unfold slP;rw[List.length_take,List.length_drop];omega
 num i hi:=fun x hx'=>ha x (List.mem_of_mem_drop (List.mem_of_mem_take hx'))
end Go.Proofs.YtkiognecebgaiaaGreatDoor.hp
namespace Go.Proofs.YtkiognecebgaiaaGreatDoor.hp
open Go.RowKit rows heads words walks
set_option maxRecDepth 100000
set_option linter.unusedVariables false
set_option linter.unusedSimpArgs false
def yngW (up:Int) (x:Int):Bool:=isA x&&decide (av x<up)
theorem isYoung_any (up:Int) (a:Option Addr) (n c:Nat) (x:Int) (w:World) (b1 : -9223372036854775808≤x) (b2:x≤9223372036854775807) :
    Calls Tryz.prog 185 #[rmv up (.slice a n c),.int .i64 x] w fun e w'=>e = .returned (.bool (yngW up x))∧Below w.heap.size w w':=by
 have B0:Below w.heap.size w (w.alloc (rmb up (.slice a n c))):=(Below.refl _ _).alloc (Nat.le_refl _) _
 have HB0:Hid _:=B0
 have AO:=addrOf_any x (w.alloc (rmb up (.slice a n c))) b1 b2
 obtain⟨⟨k0,k1⟩,_⟩:=rmb_cells (heap_alloc_new w (rmb up (.slice a n c)))
 unfold yngW
 cases hA:isA x
 ·rw[hA]at AO
  generalize av x=ax at *
  clear B0 hA b1 b2
  go_enter Tryz.func185,Tryz.ntmps185
  go_upto_region 1 with fail
  generalize w.alloc (rmb up (.slice a n c))=X at *
  go_wp2_with (go_at_call 196;refine AO.mono ?_;clear AO;rintro e w3 ⟨rfl,hw3⟩;rw[hw3];clear hw3 w3)
  go_ret
  exact⟨rfl,HB0.out⟩
 ·rw[hA]at AO
  generalize av x=ax at *
  clear B0 hA b1 b2
  go_enter Tryz.func185,Tryz.ntmps185
  go_upto_region 1 with fail
  generalize w.alloc (rmb up (.slice a n c))=X at *
  go_wp2_with (go_at_call 196;refine AO.mono ?_;clear AO;rintro e w3 ⟨rfl,hw3⟩;rw[hw3];clear hw3 w3)
  go_ret
  exact⟨rfl,HB0.out⟩
def idxY (up:Int) (xs:List Int):Int:=match xs.findIdx? (yngW up) with|some i=>(i:Int)|none => -1
theorem idxY_at {up:Int} {xs:List Int} {k:Nat} (hk:k<xs.length) (h:yngW up (xs.getD k 0)=true) (hn:∀m,m<k→yngW up (xs.getD m 0)=false):idxY up xs=k:=by
 unfold idxY
 have e:xs.findIdx? (yngW up)=some k:=by
  rw[List.findIdx?_eq_some_iff_getElem]
  refine⟨hk,?_,fun j hj => ?_⟩
  ·simpa [List.getD_eq_getElem?_getD,List.getElem?_eq_getElem hk] using h
  ·have:=hn j hj
   simpa [List.getD_eq_getElem?_getD,List.getElem?_eq_getElem (show j<xs.length by omega)] using this
 rw[e]
theorem idxY_no {up:Int} {xs:List Int} (hn:∀m,m<xs.length→yngW up (xs.getD m 0)=false):idxY up xs = -1:=by
 unfold idxY
 have e:xs.findIdx? (yngW up)=none:=by
  rw[List.findIdx?_eq_none_iff]
  intro x hx
  obtain⟨m,hm,rfl⟩:=List.getElem_of_mem hx
  have:=hn m hm
  simpa [List.getD_eq_getElem?_getD,List.getElem?_eq_getElem hm] using this
 rw[e]
theorem idxY_any (up:Int) (xs:List Int):decide (idxY up xs ≥ 0)=xs.any (yngW up):=by
 unfold idxY
 cases e:xs.findIdx? (yngW up) with
 |none=>
  rw[List.findIdx?_eq_none_iff]at e
  have:xs.any (yngW up)=false:=by
   rw[List.any_eq_false]
   intro x hx h
   rw[e x hx]at h;cases h
  rw[this];decide
 |some i=>
  rw[List.findIdx?_eq_some_iff_getElem]at e
  obtain⟨hi,ht,_⟩:=e
  have:xs.any (yngW up)=true:=by
   rw[List.any_eq_true]
   exact⟨_,List.getElem_mem hi,ht⟩
  rw[this];simp
set_option maxHeartbeats 4000000 in
theorem indexYoung_any {w:World} {up:Int} {a:Option Addr} {n c:Nat} {u:Value} {xs:List Int} (h:IntsAt w u xs) (hl:xs.length≤1048576) (ha:AllI xs) :
    Calls Tryz.prog 199 #[u,.func (.func 185) #[rmv up (.slice a n c)] #[]] w fun e w'=>e = .returned (.int .i64 (idxY up xs))∧Below w.heap.size w w':=by
 have HI:Hid _:=h
 have HA:Hid _:=ha
 obtain⟨a2,cap2,rfl,_,_,_,_⟩:=h
 obtain⟨R,hR⟩:∃R,idxY up xs=R:=⟨_,rfl⟩
 rw[hR]
 have HR:Hid _:=hR
 clear hR ha
 go_enter Tryz.func199,Tryz.ntmps199
 go_wp2_with fail
 go_loopw [5,8] (fun _ q wr=>∃k:Nat,k≤xs.length∧q = .int .i64 (k:Int)∧(∀m,m<k→yngW up (xs.getD m 0)=false)∧Below w.heap.size w wr) (fun _ q _=>xs.length-(intOf q).toNat)
 case atStart=>exact⟨0,Nat.zero_le _,rfl,fun m hm=>by omega,Below.refl _ _⟩
 case round=>
  obtain⟨k,hk,rfl,hne,hB⟩:=hrel
  have HNE:Hid _:=hne
  have HB:Hid _:=hB
  by_cases hlt:k<xs.length
  ·obtain⟨b,off,ea,_,x0⟩:=ints_cellI (intsAt_below HI.out hB) hlt
   subst ea
   obtain⟨y,hy⟩:∃y,xs.getD k 0=y:=⟨_,rfl⟩
   have hyb:=HA.out y (by rw[←hy,List.getD_eq_getElem?_getD,List.getElem?_eq_getElem hlt];exact List.getElem_mem hlt)
   have CY:=isYoung_any up a n c y wr hyb.1 hyb.2
   have HF1:Hid (yngW up y=false→∀m,m<k+1→yngW up (xs.getD m 0)=false):=fun e m hm=>by
    by_cases e':m=k
    ·rw[e',hy];exact e
    ·exact HNE.out m (by omega)
   have HF2:Hid (yngW up y=true→R=k):=fun e=>HR.out.symm.trans (idxY_at hlt (by rw[hy];exact e) HNE.out)
   rw[hy]at x0
   have hlt':(k:Int)<(xs.length:Int):=by omega
   clear hne hB hyb hy
   cases hw:yngW up y
   ·rw[hw]at CY
    have HV:Hid _:=HF1.out hw
    clear hw HF1 HF2
    go_wp2_with (go_at_call 185;refine CY.mono ?_;clear CY;rintro e w3 ⟨rfl,b3⟩;have HB3:Hid _:=HB.out.trans (b3.mono HB.out.size);clear b3)
    exact⟨⟨k+1,by omega,by go_num,HV.out,HB3.out⟩,by simp[intOf];omega⟩
   ·rw[hw]at CY
    have HV:Hid _:=HF2.out hw
    clear hw HF1 HF2
    go_wp2_with (go_at_call 185;refine CY.mono ?_;clear CY;rintro e w3 ⟨rfl,b3⟩;have HB3:Hid _:=HB.out.trans (b3.mono HB.out.size);clear b3)
    go_ret
    exact⟨by rw[HV.out];rfl,HB3.out⟩
  ·have hlt':¬(k:Int)<(xs.length:Int):=by omega
   have HF:Hid (R = -1):=by show _=_;rw[←HR.out];exact idxY_no (fun m hm=>hne m (by omega))
   clear hne hB
   go_wp2
   go_ret
   exact⟨by rw[HF.out];rfl,HB.out⟩
theorem containsYoung_any {w:World} {up:Int} {a:Option Addr} {n c:Nat} {u:Value} {xs:List Int} (h:IntsAt w u xs) (hl:xs.length≤1048576) (ha:AllI xs) :
    Calls Tryz.prog 184 #[u,.func (.func 185) #[rmv up (.slice a n c)] #[]] w fun e w'=>e = .returned (.bool (xs.any (yngW up)))∧Below w.heap.size w w':=by
 have IX:=indexYoung_any (up:=up) (a:=a) (n:=n) (c:=c) h hl ha
 obtain⟨a2,cap2,rfl,_,_,_,_⟩:=h
 rw[←idxY_any]
 generalize idxY up xs=R at *
 clear ha
 go_enter Tryz.func184,Tryz.ntmps184
 go_wp2_with (go_at_call 199;refine IX.mono ?_;clear IX;rintro e w3 ⟨rfl,b3⟩;have HB3:Hid _:=b3;clear b3)
 go_ret
 exact⟨rfl,HB3.out⟩
set_option maxHeartbeats 8000000 in
theorem seesYoung_any {w:World} {up:Int} {a:Option Addr} {n c:Nat} {d:Pd} {xs:List Int} (hu:∃a n c,d.u = .slice a n c) (hl:xs.length≤1048576) (ha:AllI xs)
    (hS:∀V,Below w.heap.size w V→Calls Tryz.prog 158 #[cv d.s d.f d.c d.h d.p d.m d.u] V fun e w'=>∃ua un uc,e = .returned (.slice ua un uc)∧IntsAt w' (.slice ua un uc) xs∧Below V.heap.size V w') :
    Calls Tryz.prog 155 #[rmv up (.slice a n c),pdv d] w fun e w'=>e = .returned (.bool (xs.any (yngW up)))∧Below w.heap.size w w':=by
 obtain⟨ds',df,dc,dh,dp,dm,du,dl⟩:=d
 obtain⟨sa,sn,sc,hsv⟩:=hu
 simp only at hsv hS
 subst hsv
 obtain⟨P,hP⟩:∃P,xs.any (yngW up)=P:=⟨_,rfl⟩
 have B0:Below w.heap.size w (w.alloc (rmb up (.slice a n c))):=(Below.refl _ _).alloc (Nat.le_refl _) _
 have B1:=B0.alloc B0.size (pdb ⟨ds',df,dc,dh,dp,dm,.slice sa sn sc,dl⟩)
 have HALL:Hid (∀V,Below ((w.alloc (rmb up (.slice a n c))).alloc (pdb ⟨ds',df,dc,dh,dp,dm,.slice sa sn sc,dl⟩)).heap.size ((w.alloc (rmb up (.slice a n c))).alloc (pdb ⟨ds',df,dc,dh,dp,dm,.slice sa sn sc,dl⟩)) V→(V.cell? ⟨w.heap.size,0,none⟩=some (.int .i64 up)∧V.cell? ⟨w.heap.size,1,none⟩=some (.slice a n c))∧V.heap[w.heap.size+1]? = some (pdb ⟨ds',df,dc,dh,dp,dm,.slice sa sn sc,dl⟩)∧Below w.heap.size w V):=by
  intro V hV
  have T1:=heap_alloc_new (w.alloc (rmb up (.slice a n c))) (pdb ⟨ds',df,dc,dh,dp,dm,.slice sa sn sc,dl⟩)
  have T2:Below (w.heap.size+1) (w.alloc (rmb up (.slice a n c))) V:=((Below.refl _ _).alloc (by simp) _).trans (hV.mono (by simp))
  have q0:V.heap[w.heap.size]? = some (rmb up (.slice a n c)):=(T2.block _ (by omega)).trans (heap_alloc_new w _)
  have q1:V.heap[w.heap.size+1]? = some (pdb ⟨ds',df,dc,dh,dp,dm,.slice sa sn sc,dl⟩):=(hV.block (w.heap.size+1) (by simp)).trans ((congrArg (fun k=>((w.alloc (rmb up (.slice a n c))).alloc (pdb ⟨ds',df,dc,dh,dp,dm,.slice sa sn sc,dl⟩)).heap[k]?) (show w.heap.size+1=(w.alloc (rmb up (.slice a n c))).heap.size by simp)).trans T1)
  exact⟨(rmb_cells q0).1,q1,B1.trans (hV.mono B1.size)⟩
 have HC:Hid (∀V u,IntsAt V u xs→Calls Tryz.prog 184 #[u,.func (.func 185) #[rmv up (.slice a n c)] #[]] V fun e w'=>e = .returned (.bool P)∧Below V.heap.size V w'):=fun V u hI=>by
  have:=containsYoung_any (up:=up) (a:=a) (n:=n) (c:=c) hI hl ha
  rwa [hP]at this
 have HSC:Hid _:=hS
 rw[hP]
 clear hS B0 B1 hP ha
 go_enter Tryz.func155,Tryz.ntmps155
 go_upto_region 1 with fail
 generalize (w.alloc _).alloc _=X at *
 obtain⟨⟨z0,z1⟩,q1,bX⟩:=HALL.out X (Below.refl _ _)
 obtain⟨⟨p0,p1,p2,p3,p4,p5,p6,p7⟩,_⟩:=pdb_cells q1
 simp only at p0 p1 p2 p3 p4 p5 p6 p7
 clear q1 bX
 have HG:Hid (∀(V w':World),Below V.heap.size V w'→Below X.heap.size X V→(w'.cell? ⟨w.heap.size,0,none⟩=some (.int .i64 up)∧w'.cell? ⟨w.heap.size,1,none⟩=some (.slice a n c))∧Below w.heap.size w w'):=by
  intro V w' h1 h2
  have hX:Below X.heap.size X w':=h2.trans (h1.mono h2.size)
  obtain⟨hz,_,hw⟩:=HALL.out w' hX
  exact⟨hz,hw⟩
 have HGB:Hid (∀V,Below X.heap.size X V→Below w.heap.size w V):=fun V hV=>(HG.out X V hV (Below.refl _ _)).2
 clear HALL
 go_region_law (first
  |(go_simp;go_at_call 158;refine Calls.mono (HSC.out _ (HGB.out _ ⟨rfl,rfl,rfl,Nat.le_refl _,fun _ _=>rfl⟩)) ?_;rintro e w5 ⟨ua,un,uc,rfl,i5,b5⟩;obtain⟨⟨t0,t1⟩,y5⟩:=HG.out _ _ b5 ⟨rfl,rfl,rfl,Nat.le_refl _,fun _ _=>rfl⟩;have HI5:Hid _:=i5;have HW5:Hid _:=y5;clear HSC i5 y5 b5 HG HGB)
  |(go_simp;go_at_call 184;refine Calls.mono (HC.out _ _ HI5.out) ?_;rintro e w6 ⟨rfl,b6⟩;have HX6:Hid (Below w.heap.size w w6):=HW5.out.trans ((⟨b6.os,b6.tape,b6.output,b6.size,b6.block⟩:Below w5.heap.size w5 w6).mono HW5.out.size);clear HC b6))
 all_goals go_wp2
 all_goals go_ret
 all_goals exact⟨rfl,HX6.out⟩
theorem same_lists {xs ys:List Int} (hl:xs.length=ys.length) (h:∀m,m<xs.length→xs.getD m 0=ys.getD m 0):xs=ys:=by
 refine List.ext_getElem hl fun i h1 h2 => ?_
 have:=h i h1
 simpa [List.getD_eq_getElem?_getD,List.getElem?_eq_getElem h1,List.getElem?_eq_getElem h2] using this
set_option maxHeartbeats 4000000 in
theorem equal_any {w:World} {u v:Value} {xs ys:List Int} (h1:IntsAt w u xs) (h2:IntsAt w v ys) (l1:xs.length≤1048576) (l2:ys.length≤1048576) :
    Calls Tryz.prog 133 #[u,v] w fun e w'=>e = .returned (.bool (decide (xs=ys)))∧Below w.heap.size w w':=by
 have H1:Hid _:=h1
 have H2:Hid _:=h2
 obtain⟨a1,c1,rfl,_,_,_,_⟩:=h1
 obtain⟨a2,c2,rfl,_,_,_,_⟩:=h2
 obtain⟨R,hR⟩:∃R,decide (xs=ys)=R:=⟨_,rfl⟩
 rw[hR]
 have HR:Hid _:=hR
 clear hR
 by_cases hl:xs.length=ys.length
 ·have HLN:Hid _:=hl
  have hle:(((xs.length:Int) != (ys.length:Int)))=false:=by simp[hl]
  have hle2:((xs.length:Int)==(ys.length:Int))=true:=by simp[hl]
  clear hl
  go_enter Tryz.func133,Tryz.ntmps133
  go_wp2_with fail
  go_loopw [5,13] (fun _ q wr=>∃k:Nat,k≤xs.length∧q = .int .i64 (k:Int)∧(∀m,m<k→xs.getD m 0=ys.getD m 0)∧Below w.heap.size w wr) (fun _ q _=>xs.length-(intOf q).toNat)
  case atStart=>exact⟨0,Nat.zero_le _,rfl,fun m hm=>by omega,Below.refl _ _⟩
  case round=>
   obtain⟨k,hk,rfl,hall,hB⟩:=hrel
   have HB:Hid _:=hB
   have HAL:Hid _:=hall
   by_cases hlt:k<xs.length
   ·have hlt2:k<ys.length:=by have:=HLN.out;omega
    obtain⟨b,off,ea,_,x0⟩:=ints_cellI (intsAt_below H1.out hB) hlt
    subst ea
    obtain⟨b',off',ea,_,y0⟩:=ints_cellI (intsAt_below H2.out hB) hlt2
    subst ea
    have hlt':(k:Int)<(xs.length:Int):=by omega
    have hlt2':(k:Int)<(ys.length:Int):=by omega
    obtain⟨x,hx⟩:∃x,xs.getD k 0=x:=⟨_,rfl⟩
    obtain⟨y,hy⟩:∃y,ys.getD k 0=y:=⟨_,rfl⟩
    rw[hx]at x0
    rw[hy]at y0
    have HF:Hid (¬x=y→R=false):=fun e=>by
     rw[←HR.out,decide_eq_false_iff_not]
     rintro rfl
     exact e (hx.symm.trans hy)
    have HV:Hid (x=y→∀m,m<k+1→xs.getD m 0=ys.getD m 0):=fun e m hm=>by
     by_cases e':m=k
     ·rw[e',hx,hy];exact e
     ·exact HAL.out m (by omega)
    clear hall hB hx hy
    by_cases hxy:x=y
    ·have HV0:Hid _:=HV.out hxy
     have e1:(x != y)=false:=by simp[hxy]
     have e2:(x==y)=true:=by simp[hxy]
     clear HV HF hxy
     go_upto_region 6 with fail
     go_quiet (fail)
     have HBD:Hid (Below w.heap.size w (wr.drewN nq)):=HB.out.trans ((bel_of_drewN ⟨_,rfl⟩:Below wr.heap.size wr (wr.drewN nq)).mono HB.out.size)
     clear x0 y0
     generalize wr.drewN nq=Z at *
     go_wp2
     exact⟨⟨k+1,by omega,by go_num,HV0.out,HBD.out⟩,by simp[intOf];omega⟩
    ·have HF0:Hid _:=HF.out hxy
     have e1:(x != y)=true:=by simp[hxy]
     have e2:(x==y)=false:=by simp[hxy]
     clear HV HF hxy
     go_upto_region 6 with fail
     go_quiet (fail)
     have HBD:Hid (Below w.heap.size w (wr.drewN nq)):=HB.out.trans ((bel_of_drewN ⟨_,rfl⟩:Below wr.heap.size wr (wr.drewN nq)).mono HB.out.size)
     clear x0 y0
     generalize wr.drewN nq=Z at *
     go_wp2
     go_ret
     exact⟨by rw[HF0.out];rfl,HBD.out⟩
   ·have hlt':¬(k:Int)<(xs.length:Int):=by omega
    have HF:Hid (R=true):=by show _=_;rw[←HR.out,decide_eq_true_eq];exact same_lists HLN.out (fun m hm=>hall m (by omega))
    clear hall hB
    go_wp2
    go_ret
    exact⟨by rw[HF.out];rfl,HB.out⟩
 ·have HF:Hid (R=false):=by
    show _=_
    rw[←HR.out,decide_eq_false_iff_not]
    rintro rfl
    exact hl rfl
  have hle:(((xs.length:Int) != (ys.length:Int)))=true:=by simp;omega
  have hle2:((xs.length:Int)==(ys.length:Int))=false:=by simp;omega
  clear hl
  go_enter Tryz.func133,Tryz.ntmps133
  go_wp2
  go_ret
  exact⟨by rw[HF.out];rfl,Below.refl _ _⟩
set_option maxHeartbeats 4000000 in
theorem allLead_any {w:World} {u:Value} {xs:List Int} (h:IntsAt w u xs) (hl:xs.length≤1048576) (ha:AllI xs) :
    Calls Tryz.prog 183 #[u] w fun e w'=>e = .returned (.bool (xs.all isA))∧w'=w:=by
 have HI:Hid _:=h
 have HA:Hid _:=ha
 obtain⟨a2,cap2,rfl,_,_,_,_⟩:=h
 obtain⟨R,hR⟩:∃R,xs.all isA=R:=⟨_,rfl⟩
 rw[hR]
 have HR:Hid _:=hR
 clear hR ha
 go_enter Tryz.func183,Tryz.ntmps183
 go_wp2_with fail
 go_loopw [4,7] (fun _ q wr=>∃k:Nat,k≤xs.length∧q = .int .i64 (k:Int)∧(∀m,m<k→isA (xs.getD m 0)=true)∧wr=w) (fun _ q _=>xs.length-(intOf q).toNat)
 case atStart=>exact⟨0,Nat.zero_le _,rfl,fun m hm=>by omega,rfl⟩
 case round=>
  obtain⟨k,hk,rfl,hall,hw⟩:=hrel
  subst hw
  have HAL:Hid _:=hall
  by_cases hlt:k<xs.length
  ·obtain⟨b,off,ea,_,x0⟩:=ints_cellI HI.out hlt
   subst ea
   obtain⟨y,hy⟩:∃y,xs.getD k 0=y:=⟨_,rfl⟩
   have hmem:y ∈ xs:=by rw[←hy,List.getD_eq_getElem?_getD,List.getElem?_eq_getElem hlt];exact List.getElem_mem hlt
   have hyb:=HA.out y hmem
   have CY:=isAddr_any y wr hyb.1 hyb.2
   have HF1:Hid (isA y=true→∀m,m<k+1→isA (xs.getD m 0)=true):=fun e m hm=>by
    by_cases e':m=k
    ·rw[e',hy];exact e
    ·exact HAL.out m (by omega)
   have HF2:Hid (isA y=false→R=false):=fun e=>by
    rw[←HR.out,List.all_eq_false]
    exact⟨y,hmem,by rw[e];decide⟩
   rw[hy]at x0
   have hlt':(k:Int)<(xs.length:Int):=by omega
   clear hall hyb hy hmem
   cases hw:isA y
   ·rw[hw]at CY
    have HV:Hid _:=HF2.out hw
    clear hw HF1 HF2
    go_wp2_with (go_at_call 198;refine CY.mono ?_;clear CY;rintro e w3 ⟨rfl,hw3⟩;rw[hw3];clear hw3 w3)
    go_ret
    exact⟨by rw[HV.out];rfl,rfl⟩
   ·rw[hw]at CY
    have HV:Hid _:=HF1.out hw
    clear hw HF1 HF2
    go_wp2_with (go_at_call 198;refine CY.mono ?_;clear CY;rintro e w3 ⟨rfl,hw3⟩;rw[hw3];clear hw3 w3)
    exact⟨⟨k+1,by omega,by go_num,HV.out,by trivial⟩,by simp[intOf];omega⟩
  ·have hlt':¬(k:Int)<(xs.length:Int):=by omega
   have HF:Hid (R=true):=by
    show _=_
    rw[←HR.out,List.all_eq_true]
    intro x hx
    obtain⟨m,hm,rfl⟩:=List.getElem_of_mem hx
    have:=hall m (by omega)
    rwa [List.getD_eq_getElem?_getD,List.getElem?_eq_getElem hm]at this
   clear hall
   go_wp2
   go_ret
   exact⟨by rw[HF.out];rfl,rfl⟩
end Go.Proofs.YtkiognecebgaiaaGreatDoor.hp
