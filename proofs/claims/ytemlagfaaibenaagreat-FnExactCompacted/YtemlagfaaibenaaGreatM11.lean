/-
  Chapter 9 as the program has it: the chunk at a place, whether a word leads nowhere or to one. Chapter 9 as the program has it: whether the slots of all chunks lead nowhere or to one. Chapter 9 as the program has it: the chunks of the rooms rise, and what slots tells of each. Chapter 9 as the progra
-/
import Derived.Test.YtemlagfaaibenaaGreatHeapI9
import Derived.Test.YtemlagfaaibenaaGreatWordsAll
import Derived.Test.YtemlagfaaibenaaGreatM8
import Derived.Test.YtemlagfaaibenaaGreatM7
import Derived.Test.YtemlagfaaibenaaGreatM2
import Derived.Test.YtemlagfaaibenaaGreatM10
import Derived.Test.YtemlagfaaibenaaGreatHeapS7
import Derived.Test.YtemlagfaaibenaaGreatHeapT
namespace Go.Proofs.YtemlagfaaibenaaGreat.hp
open Go.RowKit rows heads words walks
set_option maxRecDepth 100000
set_option linter.unusedVariables false
set_option linter.unusedSimpArgs false
theorem pdb_cells {W:World} {b:Nat} {d:Pd} (h:W.heap[b]? = some (pdb d)):(W.cell? ⟨b,0,none⟩=some (.int .i64 d.s)∧W.cell? ⟨b,1,none⟩=some (.int .i64 d.f)∧W.cell? ⟨b,2,none⟩=some (.int .i64 d.c)∧W.cell? ⟨b,3,none⟩=some (.int .i64 d.h)∧W.cell? ⟨b,4,none⟩=some (.bool d.p)∧W.cell? ⟨b,5,none⟩=some (.bool d.m)∧W.cell? ⟨b,6,none⟩=some d.u∧W.cell? ⟨b,7,none⟩=some (.int .i64 d.pl))∧(W.frozen? ⟨b,0,none⟩=false∧W.frozen? ⟨b,1,none⟩=false∧W.frozen? ⟨b,2,none⟩=false∧W.frozen? ⟨b,3,none⟩=false∧W.frozen? ⟨b,4,none⟩=false∧W.frozen? ⟨b,5,none⟩=false∧W.frozen? ⟨b,6,none⟩=false∧W.frozen? ⟨b,7,none⟩=false):=by
 refine⟨⟨?_,?_,?_,?_,?_,?_,?_,?_⟩,?_,?_,?_,?_,?_,?_,?_,?_⟩<;>simp[World.cell?, World.frozen?, h]
abbrev pdSet (X:World) (b:Nat) (d:Pd):World:=(((((((X.setCell ⟨b,0,none⟩ (.int .i64 d.s)).setCell ⟨b,1,none⟩ (.int .i64 d.f)).setCell ⟨b,2,none⟩ (.int .i64 d.c)).setCell ⟨b,3,none⟩ (.int .i64 d.h)).setCell ⟨b,4,none⟩ (.bool d.p)).setCell ⟨b,5,none⟩ (.bool d.m)).setCell ⟨b,6,none⟩ d.u).setCell ⟨b,7,none⟩ (.int .i64 d.pl)
theorem pdb_set {W:World} {b:Nat} {d:Pd} (h:W.heap[b]? = some (pdb d)) (e:Pd):(pdSet W b e).heap[b]? = some (pdb e):=
 (cells_setCell (cells_setCell (cells_setCell (cells_setCell (cells_setCell (cells_setCell (cells_setCell (cells_setCell h 0 (.int .i64 e.s)) 1 (.int .i64 e.f)) 2 (.int .i64 e.c)) 3 (.int .i64 e.h)) 4 (.bool e.p)) 5 (.bool e.m)) 6 e.u) 7 (.int .i64 e.pl)).trans (by simp)
theorem pdb_below {n:Nat} {w X:World} {b:Nat} (hB:Below n w X) (hb:n≤b) (e:Pd):Below n w (pdSet X b e):=(((((((hB.setCell (p:=⟨b,0,none⟩) hb _).setCell (p:=⟨b,1,none⟩) hb _).setCell (p:=⟨b,2,none⟩) hb _).setCell (p:=⟨b,3,none⟩) hb _).setCell (p:=⟨b,4,none⟩) hb _).setCell (p:=⟨b,5,none⟩) hb _).setCell (p:=⟨b,6,none⟩) hb _).setCell (p:=⟨b,7,none⟩) hb _
theorem res_pd {fn:Func} {tmps:Array Value} {X:World} {j i b:Nat} {s f c h:Int} {p m:Bool} {ua:Option Addr} {un uc:Nat} {pl:Int} {bb:Bool} (hf:fn.results=#[.cell j 46,.tmp i]) (h2:tmps[j]? = some (.pointer (some ⟨b,0,none⟩))) (hi:tmps[i]? = some (.bool bb)) (hX:X.heap[b]? = some (pdb ⟨s,f,c,h,p,m,.slice ua un uc,pl⟩)) :
    (results fn tmps).run Tryz.prog X = .ok (.tuple #[pdv ⟨s,f,c,h,p,m,.slice ua un uc,pl⟩,.bool bb]) X:=by
 obtain⟨⟨k0,k1,k2,k3,k4,k5,k6,k7⟩,_⟩:=pdb_cells hX
 clear hX
 simp only at k0 k1 k2 k3 k4 k5 k6 k7
 simp[results,hf,h2,hi,go_sem,k0,k1,k2,k3,k4,k5,k6,k7]
abbrev rmv (up:Int) (v:Value):Value:=.agg #[.int .i64 up,v]
def hasP (ds:List Pd) (at':Int):Bool:=ds.any (fun d=>d.pl==at')
theorem hasP_no {ds:List Pd} {x:Int} {i:Nat} (hr:RiseP ds) (h:EndsP ds x i) (hn:(decide (i<ds.length)&&decide ((ds.getD i pdD).pl=x))=false):hasP ds x=false:=by
 unfold hasP
 rw[List.any_eq_false]
 intro d hd e
 obtain⟨m,hm,rfl⟩:=List.getElem_of_mem hd
 have em:ds[m]=ds.getD m pdD:=by rw[List.getD_eq_getElem?_getD,List.getElem?_eq_getElem hm];rfl
 rw[em]at e
 have e':(ds.getD m pdD).pl=x:=by simpa using e
 rcases Nat.lt_trichotomy m i with h1|h1|h1
 ·have:=h.2.1 m h1;omega
 ·subst h1;rw[decide_eq_true hm,decide_eq_true e']at hn;cases hn
 ·have h2:=h.2.2 i (Nat.le_refl _) (by omega)
  have h3:=hr i m h1 hm
  omega
theorem hasP_yes {ds:List Pd} {i:Nat} (hi:i<ds.length):hasP ds (ds.getD i pdD).pl=true:=by
 unfold hasP
 rw[List.any_eq_true]
 exact⟨_,mem_getDP hi,by simp⟩
set_option maxHeartbeats 8000000 in
theorem find_any {w:World} {up:Int} {v:Value} {ds:List Pd} (h:PdsAt w v ds) (hs:SlicesP ds) (hr:RiseP ds) (hl:ds.length≤1048576) (x:Int) :
    Calls Tryz.prog 123 #[rmv up v,.int .i64 x] w fun e w'=>(hasP ds x=false→e = .returned (.tuple #[pdv pdD,.bool false]))∧(hasP ds x=true→∃i,i<ds.length∧(ds.getD i pdD).pl=x∧e = .returned (.tuple #[pdv (ds.getD i pdD),.bool true]))∧Below w.heap.size w w':=by
 obtain⟨a,cap,rfl⟩:=pds_slice h
 have B0:Below w.heap.size w (w.alloc (rmb up (.slice a ds.length cap))):=(Below.refl _ _).alloc (Nat.le_refl _) _
 have B1:=B0.alloc B0.size (pdb pdD)
 have HALL:Hid (∀V,Below ((w.alloc (rmb up (.slice a ds.length cap))).alloc (pdb pdD)).heap.size ((w.alloc (rmb up (.slice a ds.length cap))).alloc (pdb pdD)) V→(V.cell? ⟨w.heap.size,0,none⟩=some (.int .i64 up)∧V.cell? ⟨w.heap.size,1,none⟩=some (.slice a ds.length cap))∧V.heap[w.heap.size+1]? = some (pdb pdD)∧PdsAt V (.slice a ds.length cap) ds∧Below w.heap.size w V∧w.heap.size+2≤V.heap.size):=by
  intro V hV
  have T1:=heap_alloc_new (w.alloc (rmb up (.slice a ds.length cap))) (pdb pdD)
  have T2:Below (w.heap.size+1) (w.alloc (rmb up (.slice a ds.length cap))) V:=((Below.refl _ _).alloc (by simp) _).trans (hV.mono (by simp))
  have q0:V.heap[w.heap.size]? = some (rmb up (.slice a ds.length cap)):=(T2.block _ (by omega)).trans (heap_alloc_new w _)
  have q1:V.heap[w.heap.size+1]? = some (pdb pdD):=(hV.block (w.heap.size+1) (by simp)).trans ((congrArg (fun k=>((w.alloc (rmb up (.slice a ds.length cap))).alloc (pdb pdD)).heap[k]?) (show w.heap.size+1=(w.alloc (rmb up (.slice a ds.length cap))).heap.size by simp)).trans T1)
  have hsz:=hV.size
  exact⟨(rmb_cells q0).1,q1,pdsAt_below h (B1.trans (hV.mono B1.size)),B1.trans (hV.mono B1.size),by simpa using hsz⟩
 have HS:Hid _:=hs
 have HR:Hid _:=hr
 clear h hs hr B0 B1
 go_enter Tryz.func123,Tryz.ntmps123
 go_upto_region 1 with fail
 generalize (w.alloc _).alloc _=X at *
 obtain⟨⟨z0,z1⟩,_,p1,_,sX⟩:=HALL.out X (Below.refl _ _)
 have BS:=binSearch_any p1 HS.out HR.out hl x
 clear p1
 go_wp2_with fail
 refine BS.mono ?_
 clear BS
 rintro e w3 ⟨i,hE,rfl,b3⟩
 clear z0 z1
 obtain⟨⟨z0,z1⟩,q1,p3,bw,s3⟩:=HALL.out w3 b3
 obtain⟨⟨y0,y1,y2,y3,y4,y5,y6,y7⟩,f0,f1,f2,f3,f4,f5,f6,f7⟩:=pdb_cells q1
 have HQ1:Hid _:=q1
 have HBW:Hid _:=bw
 have HE:Hid _:=hE
 obtain⟨bb,hbb⟩:∃bb,(decide (i<ds.length)&&decide ((ds.getD i pdD).pl=x))=bb:=⟨_,rfl⟩
 rw[hbb]
 cases bb
 ·have HN:Hid (hasP ds x=false):=hasP_no HR.out hE hbb
  clear q1 bw p3 hE hbb
  go_wp2_with fail
  exact bodyPost_ret (res_pd rfl rfl rfl (pdb_set HQ1.out pdD)) rfl ⟨fun _=>rfl,fun e=>absurd (HN.out.symm.trans e) (by decide),pdb_below HBW.out (by omega) pdD⟩
 ·rw[Bool.and_eq_true,decide_eq_true_eq,decide_eq_true_eq]at hbb
  obtain⟨hil,hix⟩:=hbb
  have HY:Hid (hasP ds x=true):=by have:=hasP_yes hil;rwa [hix]at this
  have HIX:Hid _:=hix
  obtain⟨a',cap',e,_,_,_,hcc⟩:=p3
  injection e with e1 e2 e3
  subst e1 e3
  obtain⟨b,off,rfl,hb,hcc⟩:=hcc (by omega)
  obtain⟨x0,x1,x2,x3,x4,x5,x6,x7⟩:=hcc i hil
  obtain⟨sa,sn,sc,hsv⟩:=HS.out _ (mem_getDP hil)
  clear hcc q1 bw hE hix
  obtain⟨d,hd⟩:∃d,ds.getD i pdD=d:=⟨_,rfl⟩
  rw[hd]at x0 x1 x2 x3 x4 x5 x6 x7 hsv HIX
  have HD:Hid _:=hd
  clear hd
  obtain⟨ds',df,dc,dh,dp,dm,du,dl⟩:=d
  simp only at x0 x1 x2 x3 x4 x5 x6 x7 hsv
  subst hsv
  have hil':(i:Int)<(ds.length:Int):=by omega
  go_wp2_with fail
  exact bodyPost_ret (res_pd rfl rfl rfl (pdb_set HQ1.out ⟨ds',df,dc,dh,dp,dm,.slice sa sn sc,dl⟩)) rfl ⟨fun e=>absurd (HY.out.symm.trans e) (by decide),fun _=>⟨i,hil,by rw[HD.out];exact HIX.out,by rw[HD.out]⟩,pdb_below HBW.out (by omega) ⟨ds',df,dc,dh,dp,dm,.slice sa sn sc,dl⟩⟩
def ledB (ds:List Pd) (x:Int):Bool:=isA x&&hasP ds (av x)
set_option maxHeartbeats 8000000 in
theorem ledBy_any {w:World} {up:Int} {v:Value} {ds:List Pd} (h:PdsAt w v ds) (hs:SlicesP ds) (hr:RiseP ds) (hl:ds.length≤1048576) (x:Int) (b1 : -9223372036854775808≤x) (b2:x≤9223372036854775807) :
    Calls Tryz.prog 100 #[rmv up v,.int .i64 x] w fun e w'=>(ledB ds x=false→e = .returned (.tuple #[pdv pdD,.bool false]))∧(ledB ds x=true→∃i,i<ds.length∧(ds.getD i pdD).pl=av x∧e = .returned (.tuple #[pdv (ds.getD i pdD),.bool true]))∧Below w.heap.size w w':=by
 obtain⟨a,cap,rfl⟩:=pds_slice h
 have B0:Below w.heap.size w (w.alloc (rmb up (.slice a ds.length cap))):=(Below.refl _ _).alloc (Nat.le_refl _) _
 have B1:=B0.alloc B0.size (pdb pdD)
 have HALL:Hid (∀V,Below ((w.alloc (rmb up (.slice a ds.length cap))).alloc (pdb pdD)).heap.size ((w.alloc (rmb up (.slice a ds.length cap))).alloc (pdb pdD)) V→(V.cell? ⟨w.heap.size,0,none⟩=some (.int .i64 up)∧V.cell? ⟨w.heap.size,1,none⟩=some (.slice a ds.length cap))∧V.heap[w.heap.size+1]? = some (pdb pdD)∧PdsAt V (.slice a ds.length cap) ds∧Below w.heap.size w V∧w.heap.size+2≤V.heap.size):=by
  intro V hV
  have T1:=heap_alloc_new (w.alloc (rmb up (.slice a ds.length cap))) (pdb pdD)
  have T2:Below (w.heap.size+1) (w.alloc (rmb up (.slice a ds.length cap))) V:=((Below.refl _ _).alloc (by simp) _).trans (hV.mono (by simp))
  have q0:V.heap[w.heap.size]? = some (rmb up (.slice a ds.length cap)):=(T2.block _ (by omega)).trans (heap_alloc_new w _)
  have q1:V.heap[w.heap.size+1]? = some (pdb pdD):=(hV.block (w.heap.size+1) (by simp)).trans ((congrArg (fun k=>((w.alloc (rmb up (.slice a ds.length cap))).alloc (pdb pdD)).heap[k]?) (show w.heap.size+1=(w.alloc (rmb up (.slice a ds.length cap))).heap.size by simp)).trans T1)
  have hsz:=hV.size
  exact⟨(rmb_cells q0).1,q1,pdsAt_below h (B1.trans (hV.mono B1.size)),B1.trans (hV.mono B1.size),by simpa using hsz⟩
 have HF:Hid (∀V,PdsAt V (.slice a ds.length cap) ds→∀y,Calls Tryz.prog 123 #[rmv up (.slice a ds.length cap),.int .i64 y] V fun e w'=>(hasP ds y=false→e = .returned (.tuple #[pdv pdD,.bool false]))∧(hasP ds y=true→∃i,i<ds.length∧(ds.getD i pdD).pl=y∧e = .returned (.tuple #[pdv (ds.getD i pdD),.bool true]))∧Below V.heap.size V w'):=fun V hV y=>find_any hV hs hr hl y
 have HS:Hid _:=hs
 have AO:Hid (∀V,Calls Tryz.prog 122 #[.int .i64 x] V fun e w'=>e = .returned (.tuple #[.int .i64 (av x),.bool (isA x)])∧w'=V):=fun V=>addrOf_any x V b1 b2
 unfold ledB
 clear h hs hr B0 B1 b1 b2
 cases hA:isA x
 ·simp only[hA]at AO
  generalize av x=ax at *
  clear HF
  go_enter Tryz.func100,Tryz.ntmps100
  go_upto_region 1 with fail
  generalize (w.alloc _).alloc _=X at *
  obtain⟨_,q1,_,bw,sX⟩:=HALL.out X (Below.refl _ _)
  obtain⟨⟨y0,y1,y2,y3,y4,y5,y6,y7⟩,f0,f1,f2,f3,f4,f5,f6,f7⟩:=pdb_cells q1
  have HQ1:Hid _:=q1
  have HBW:Hid _:=bw
  have AX:=AO.out X
  clear q1 bw HALL AO
  go_wp2_with (go_at_call 122;refine AX.mono ?_;clear AX;rintro e w3 ⟨rfl,hw3⟩;rw[hw3];clear hw3 w3)
  exact bodyPost_ret (res_pd rfl rfl rfl (pdb_set HQ1.out pdD)) rfl ⟨fun _=>rfl,fun e=>(by simp at e),pdb_below HBW.out (by omega) pdD⟩
 ·simp only[hA]at AO
  generalize av x=ax at *
  rw[Bool.true_and]
  go_enter Tryz.func100,Tryz.ntmps100
  go_upto_region 1 with fail
  generalize (w.alloc _).alloc _=X at *
  obtain⟨⟨z0,z1⟩,_,pX,_,sX⟩:=HALL.out X (Below.refl _ _)
  have AX:=AO.out X
  have FX:=HF.out X pX ax
  clear AO HF pX
  cases hP:hasP ds ax
  ·have F0:=FX.mono (fun e w' (hh:_∧_∧_)=>(⟨hh.1 hP,hh.2.2⟩:e = .returned (.tuple #[pdv pdD,.bool false])∧Below X.heap.size X w'))
   clear FX
   go_wp2_with (first|(go_at_call 122;refine AX.mono ?_;clear AX;rintro e w3 ⟨rfl,hw3⟩;rw[hw3];clear hw3 w3)|(go_at_call 123;refine F0.mono ?_;clear F0 z0 z1;rintro e w4 ⟨rfl,b4⟩;obtain⟨_,q1,_,bw,s4⟩:=HALL.out w4 b4;obtain⟨⟨y0,y1,y2,y3,y4,y5,y6,y7⟩,f0,f1,f2,f3,f4,f5,f6,f7⟩:=pdb_cells q1;have HQ1:Hid _:=q1;have HBW:Hid _:=bw;clear q1 bw b4))
   exact bodyPost_ret (res_pd rfl rfl rfl (pdb_set HQ1.out pdD)) rfl ⟨fun _=>rfl,fun e=>(by rw[hP]at e;cases e),pdb_below HBW.out (by omega) pdD⟩
  ·have F0:=FX.mono (fun e w' (hh:_∧_∧_)=>(⟨hh.2.1 hP,hh.2.2⟩:(∃i,i<ds.length∧(ds.getD i pdD).pl=ax∧e = .returned (.tuple #[pdv (ds.getD i pdD),.bool true]))∧Below X.heap.size X w'))
   clear FX
   go_wp2_with (first|(go_at_call 122;refine AX.mono ?_;clear AX;rintro e w3 ⟨rfl,hw3⟩;rw[hw3];clear hw3 w3)|(go_at_call 123;refine F0.mono ?_;clear F0 z0 z1;rintro e w4 ⟨⟨i,hil,hpl,rfl⟩,b4⟩;obtain⟨_,q1,_,bw,s4⟩:=HALL.out w4 b4;obtain⟨⟨y0,y1,y2,y3,y4,y5,y6,y7⟩,f0,f1,f2,f3,f4,f5,f6,f7⟩:=pdb_cells q1;have HQ1:Hid _:=q1;have HBW:Hid _:=bw;obtain⟨sa,sn,sc,hsv⟩:=HS.out _ (mem_getDP hil);obtain⟨d,hd⟩:∃d,ds.getD i pdD=d:=⟨_,rfl⟩;rw[hd]at hsv hpl ⊢; have HD:Hid _:=hd;have HPL:Hid _:=hpl;obtain⟨ds',df,dc,dh,dp,dm,du,dl⟩:=d;simp only at hsv;subst hsv;clear q1 bw b4 hd hpl))
   exact bodyPost_ret (res_pd rfl rfl rfl (pdb_set HQ1.out ⟨ds',df,dc,dh,dp,dm,.slice sa sn sc,dl⟩)) rfl ⟨fun e=>(by rw[hP]at e;cases e),fun _=>⟨i,hil,by rw[HD.out];exact HPL.out,by rw[HD.out]⟩,pdb_below HBW.out (by omega) ⟨ds',df,dc,dh,dp,dm,.slice sa sn sc,dl⟩⟩
def holdW (ds:List Pd) (x:Int):Bool:=if isA x then hasP ds (av x) else isW x
set_option maxHeartbeats 4000000 in
theorem holds_any {w:World} {up:Int} {v:Value} {ds:List Pd} (h:PdsAt w v ds) (hs:SlicesP ds) (hr:RiseP ds) (hl:ds.length≤1048576) (x:Int) (b1 : -9223372036854775808≤x) (b2:x≤9223372036854775807) :
    Calls Tryz.prog 136 #[rmv up v,.int .i64 x] w fun e w'=>e = .returned (.bool (holdW ds x))∧Below w.heap.size w w':=by
 obtain⟨a,cap,rfl⟩:=pds_slice h
 have B0:Below w.heap.size w (w.alloc (rmb up (.slice a ds.length cap))):=(Below.refl _ _).alloc (Nat.le_refl _) _
 have HB0:Hid _:=B0
 have AO:=isAddr_any x (w.alloc (rmb up (.slice a ds.length cap))) b1 b2
 cases hA:isA x
 ·rw[hA]at AO
  have WO:=wordOk_any x (w.alloc (rmb up (.slice a ds.length cap))) b1 b2
  rw[show holdW ds x=isW x by unfold holdW;rw[hA];rfl]
  generalize isW x=ww at *
  clear h hs hr B0 hA b1 b2
  go_enter Tryz.func136,Tryz.ntmps136
  go_wp2_with (first|(go_at_call 137;refine AO.mono ?_;clear AO;rintro e w3 ⟨rfl,hw3⟩;rw[hw3];clear hw3 w3)|(go_at_call 148;refine WO.mono ?_;clear WO;rintro e w4 ⟨rfl,_,b4⟩;have HB4:Hid _:=b4;clear b4))
  go_ret
  exact⟨rfl,HB0.out.trans (HB4.out.mono HB0.out.size)⟩
 ·rw[hA]at AO
  have FI:=ledBy_any (up:=up) (pdsAt_below h B0) hs hr hl x b1 b2
  rw[show holdW ds x=ledB ds x by unfold holdW ledB;rw[hA];simp]
  obtain⟨⟨k0,k1⟩,_⟩:=rmb_cells (heap_alloc_new w (rmb up (.slice a ds.length cap)))
  have HSL:Hid _:=hs
  clear h hs hr B0 hA b1 b2
  go_enter Tryz.func136,Tryz.ntmps136
  go_upto_region 1 with fail
  generalize w.alloc (rmb up (.slice a ds.length cap))=X at *
  cases hP:ledB ds x
  ·have F0:=FI.mono (fun e w' (hh:_∧_∧_)=>(⟨hh.1 hP,hh.2.2⟩:e = .returned (.tuple #[pdv pdD,.bool false])∧Below X.heap.size X w'))
   clear HSL FI
   go_wp2_with (first|(go_at_call 137;refine AO.mono ?_;clear AO;rintro e w3 ⟨rfl,hw3⟩;rw[hw3];clear hw3 w3)|(go_at_call 100;refine F0.mono ?_;clear F0;rintro e w4 ⟨rfl,b4⟩;have HB4:Hid _:=b4;clear b4))
   have BF:=HB0.out.trans (HB4.out.mono HB0.out.size)
   have HBF:Hid _:=BF
   clear BF
   go_ret
   exact⟨by rw[hP];rfl,HBF.out.alloc HBF.out.size _⟩
  ·have F0:=FI.mono (fun e w' (hh:_∧_∧_)=>(⟨hh.2.1 hP,hh.2.2⟩:(∃i,i<ds.length∧(ds.getD i pdD).pl=av x∧e = .returned (.tuple #[pdv (ds.getD i pdD),.bool true]))∧Below X.heap.size X w'))
   clear FI
   go_wp2_with (first|(go_at_call 137;refine AO.mono ?_;clear AO;rintro e w3 ⟨rfl,hw3⟩;rw[hw3];clear hw3 w3)|(go_at_call 100;refine F0.mono ?_;clear F0;rintro e w4 ⟨⟨i,hil,_,rfl⟩,b4⟩;obtain⟨sa,sn,sc,hsv⟩:=HSL.out _ (mem_getDP hil);obtain⟨d,hd⟩:∃d,ds.getD i pdD=d:=⟨_,rfl⟩;rw[hd]at hsv ⊢; obtain⟨ds',df,dc,dh,dp,dm,du,dl⟩:=d;simp only at hsv;subst hsv;have HB4:Hid _:=b4;clear b4 hd HSL))
   have BF:=HB0.out.trans (HB4.out.mono HB0.out.size)
   have HBF:Hid _:=BF
   clear BF
   go_ret
   exact⟨by rw[hP];rfl,HBF.out.alloc HBF.out.size _⟩
def holdL (ds:List Pd) (xs:List Int):Bool:=xs.all (holdW ds)
theorem holdL_no {ds:List Pd} {xs:List Int} {k:Nat} (hk:k<xs.length) (h:holdW ds (xs.getD k 0)=false):holdL ds xs=false:=by
 unfold holdL
 rw[List.all_eq_false]
 refine⟨xs.getD k 0,?_,by rw[h];decide⟩
 rw[List.getD_eq_getElem?_getD,List.getElem?_eq_getElem hk];exact List.getElem_mem hk
theorem holdL_yes {ds:List Pd} {xs:List Int} (h:∀m,m<xs.length→holdW ds (xs.getD m 0)=true):holdL ds xs=true:=by
 unfold holdL
 rw[List.all_eq_true]
 intro x hx
 obtain⟨m,hm,rfl⟩:=List.getElem_of_mem hx
 have:=h m hm
 rwa [List.getD_eq_getElem?_getD,List.getElem?_eq_getElem hm]at this
set_option maxHeartbeats 4000000 in
theorem holdsAll_any {w:World} {up:Int} {v:Value} {ds:List Pd} (h:PdsAt w v ds) (hs:SlicesP ds) (hr:RiseP ds) (hl:ds.length≤1048576) {u:Value} {xs:List Int} (hx:IntsAt w u xs) (hxl:xs.length≤1048576) (ha:AllI xs) :
    Calls Tryz.prog 118 #[rmv up v,u] w fun e w'=>e = .returned (.bool (holdL ds xs))∧Below w.heap.size w w':=by
 have HX:Hid _:=hx
 have HA:Hid _:=ha
 obtain⟨a,cap,rfl⟩:=pds_slice h
 obtain⟨a2,cap2,rfl,_,_,_,_⟩:=hx
 obtain⟨R,hR⟩:∃R,holdL ds xs=R:=⟨_,rfl⟩
 have HR:Hid _:=hR
 have B0:Below w.heap.size w (w.alloc (rmb up (.slice a ds.length cap))):=(Below.refl _ _).alloc (Nat.le_refl _) _
 have HALL:Hid (∀V,Below (w.alloc (rmb up (.slice a ds.length cap))).heap.size (w.alloc (rmb up (.slice a ds.length cap))) V→(V.cell? ⟨w.heap.size,0,none⟩=some (.int .i64 up)∧V.cell? ⟨w.heap.size,1,none⟩=some (.slice a ds.length cap))∧Below w.heap.size w V∧IntsAt V (.slice a2 xs.length cap2) xs∧∀x,-9223372036854775808≤x→x≤9223372036854775807→Calls Tryz.prog 136 #[rmv up (.slice a ds.length cap),.int .i64 x] V fun e w'=>e = .returned (.bool (holdW ds x))∧Below V.heap.size V w'):=by
  intro V hV
  have q0:V.heap[w.heap.size]? = some (rmb up (.slice a ds.length cap)):=(hV.block _ (by simp)).trans (heap_alloc_new w _)
  have B:=B0.trans (hV.mono B0.size)
  exact⟨(rmb_cells q0).1,B,intsAt_below HX.out B,fun x b1 b2=>holds_any (pdsAt_below h B) hs hr hl x b1 b2⟩
 rw[hR]
 clear h hs hr B0 hR ha
 go_enter Tryz.func118,Tryz.ntmps118
 go_upto_region 1 with fail
 generalize w.alloc (rmb up (.slice a ds.length cap))=X at *
 go_wp2_with fail
 go_loopw [6,9] (fun _ q wr=>∃k:Nat,k≤xs.length∧q = .int .i64 (k:Int)∧(∀m,m<k→holdW ds (xs.getD m 0)=true)∧Below X.heap.size X wr) (fun _ q _=>xs.length-(intOf q).toNat)
 case atStart=>exact⟨0,Nat.zero_le _,rfl,fun m hm=>by omega,Below.refl _ _⟩
 case round=>
  obtain⟨k,hk,rfl,hall,hB⟩:=hrel
  have HB:Hid _:=hB
  obtain⟨⟨z0,z1⟩,bw,i1,hC⟩:=HALL.out wr hB
  have HBW:Hid _:=bw
  by_cases hlt:k<xs.length
  ·obtain⟨b,off,ea,_,x0⟩:=ints_cellI i1 hlt
   subst ea
   obtain⟨y,hy⟩:∃y,xs.getD k 0=y:=⟨_,rfl⟩
   have hyb:=HA.out y (by rw[←hy,List.getD_eq_getElem?_getD,List.getElem?_eq_getElem hlt];exact List.getElem_mem hlt)
   have CL:=hC y hyb.1 hyb.2
   rw[hy]at x0
   have hlt':(k:Int)<(xs.length:Int):=by omega
   have HAL:Hid _:=hall
   have HY:Hid _:=hy
   clear hC i1 bw hB hyb hall hy
   cases hw:holdW ds y
   ·rw[hw]at CL
    have HF:Hid (R=false):=by show _=_;rw[←HR.out];exact holdL_no hlt (by rw[HY.out];exact hw)
    clear hw
    go_wp2_with (go_at_call 136;refine CL.mono ?_;clear CL;rintro e w3 ⟨rfl,b3⟩;have HB3:Hid _:=HBW.out.trans (b3.mono HBW.out.size);clear b3)
    go_ret
    exact⟨by rw[HF.out];rfl,HB3.out⟩
   ·rw[hw]at CL
    have HV:Hid (∀m,m<k+1→holdW ds (xs.getD m 0)=true):=fun m hm=>by
     by_cases e:m=k
     ·rw[e,HY.out];exact hw
     ·exact HAL.out m (by omega)
    clear hw
    go_wp2_with (go_at_call 136;refine CL.mono ?_;clear CL;rintro e w3 ⟨rfl,b3⟩;have HB3:Hid _:=HB.out.trans (b3.mono HB.out.size);clear b3)
    exact⟨⟨k+1,by omega,by go_num,HV.out,HB3.out⟩,by simp[intOf];omega⟩
  ·have hlt':¬(k:Int)<(xs.length:Int):=by omega
   have HF:Hid (R=true):=by show _=_;rw[←HR.out];exact holdL_yes (fun m hm=>hall m (by omega))
   clear hC i1 bw hB hall
   go_wp2
   go_ret
   exact⟨by rw[HF.out];rfl,HBW.out⟩
structure SlotsP (w:World) (ds:List Pd) (sl:Pd→List Int):Prop where
 call:∀V,Below w.heap.size w V→∀i,i<ds.length→Calls Tryz.prog 63 #[cv (ds.getD i pdD).s (ds.getD i pdD).f (ds.getD i pdD).c (ds.getD i pdD).h (ds.getD i pdD).p (ds.getD i pdD).m (ds.getD i pdD).u] V fun e w'=>∃ua un uc,e = .returned (.slice ua un uc)∧IntsAt w' (.slice ua un uc) (sl (ds.getD i pdD))∧Below V.heap.size V w'
 len:∀i,i<ds.length→(sl (ds.getD i pdD)).length≤1048576
 num:∀i,i<ds.length→AllI (sl (ds.getD i pdD))
def holdS (ds:List Pd) (sl:Pd→List Int):Bool:=ds.all (fun d=>holdL ds (sl d))
theorem holdS_no {ds:List Pd} {sl:Pd→List Int} {k:Nat} (hk:k<ds.length) (h:holdL ds (sl (ds.getD k pdD))=false):holdS ds sl=false:=by
 unfold holdS
 rw[List.all_eq_false]
 exact⟨_,mem_getDP hk,by rw[h];decide⟩
theorem holdS_yes {ds:List Pd} {sl:Pd→List Int} (h:∀m,m<ds.length→holdL ds (sl (ds.getD m pdD))=true):holdS ds sl=true:=by
 unfold holdS
 rw[List.all_eq_true]
 intro x hx
 obtain⟨m,hm,rfl⟩:=List.getElem_of_mem hx
 have:=h m hm
 rwa [List.getD_eq_getElem?_getD,List.getElem?_eq_getElem hm]at this
set_option maxHeartbeats 8000000 in
theorem holdsSlots_any {w:World} {up:Int} {v:Value} {ds:List Pd} {sl:Pd→List Int} (h:PdsAt w v ds) (hs:SlicesP ds) (hr:RiseP ds) (hl:ds.length≤1048576) (hS:SlotsP w ds sl) :
    Calls Tryz.prog 94 #[rmv up v] w fun e w'=>e = .returned (.bool (holdS ds sl))∧Below w.heap.size w w':=by
 obtain⟨a,cap,rfl⟩:=pds_slice h
 have HP:Hid _:=h
 have HSL:Hid _:=hs
 obtain⟨R,hR⟩:∃R,holdS ds sl=R:=⟨_,rfl⟩
 have HR:Hid _:=hR
 have B0:Below w.heap.size w (w.alloc (rmb up (.slice a ds.length cap))):=(Below.refl _ _).alloc (Nat.le_refl _) _
 have HALL:Hid (∀V,Below (w.alloc (rmb up (.slice a ds.length cap))).heap.size (w.alloc (rmb up (.slice a ds.length cap))) V→(V.cell? ⟨w.heap.size,0,none⟩=some (.int .i64 up)∧V.cell? ⟨w.heap.size,1,none⟩=some (.slice a ds.length cap))∧Below w.heap.size w V):=by
  intro V hV
  have q0:V.heap[w.heap.size]? = some (rmb up (.slice a ds.length cap)):=(hV.block _ (by simp)).trans (heap_alloc_new w _)
  exact⟨(rmb_cells q0).1,B0.trans (hV.mono B0.size)⟩
 have HCL:Hid (∀V,Below w.heap.size w V→∀(u:Value) (xs:List Int),IntsAt V u xs→xs.length≤1048576→AllI xs→Calls Tryz.prog 118 #[rmv up (.slice a ds.length cap),u] V fun e w'=>e = .returned (.bool (holdL ds xs))∧Below V.heap.size V w'):=fun V hV u xs h1 h2 h3=>holdsAll_any (pdsAt_below HP.out hV) hs hr hl h1 h2 h3
 have HSP:Hid _:=hS
 rw[hR]
 clear h hs hr B0 hR hS
 go_enter Tryz.func94,Tryz.ntmps94
 go_upto_region 1 with fail
 generalize w.alloc (rmb up (.slice a ds.length cap))=X at *
 obtain⟨⟨z0,z1⟩,_⟩:=HALL.out X (Below.refl _ _)
 go_wp2_with fail
 clear z0 z1
 go_loopw [4,8] (fun _ q wr=>∃k:Nat,k≤ds.length∧q = .int .i64 (k:Int)∧(∀m,m<k→holdL ds (sl (ds.getD m pdD))=true)∧Below X.heap.size X wr) (fun _ q _=>ds.length-(intOf q).toNat)
 case atStart=>exact⟨0,Nat.zero_le _,rfl,fun m hm=>by omega,Below.refl _ _⟩
 case round=>
  obtain⟨k,hk,rfl,hall,hB⟩:=hrel
  have HB:Hid _:=hB
  obtain⟨_,bw⟩:=HALL.out wr hB
  have HBW:Hid _:=bw
  by_cases hlt:k<ds.length
  ·obtain⟨b,off,ea,hbl,k0,k1,k2,k3,k4,k5,k6,k7⟩:=pds_cell (pdsAt_below HP.out bw) hlt
   subst ea
   obtain⟨sa,sn,sc,hsv⟩:=HSL.out _ (mem_getDP hlt)
   have hlt':(k:Int)<(ds.length:Int):=by omega
   have HAL:Hid _:=hall
   have SC:=fun V hV=>HSP.out.call V hV k hlt
   have sl1:=HSP.out.len k hlt
   have sl2:=HSP.out.num k hlt
   obtain⟨d,hd⟩:∃d,ds.getD k pdD=d:=⟨_,rfl⟩
   rw[hd]at k0 k1 k2 k3 k4 k5 k6 k7 hsv sl1 sl2
   simp only[hd]at SC
   obtain⟨xs,hxs⟩:∃xs,sl d=xs:=⟨_,rfl⟩
   rw[hxs]at sl1 sl2
   simp only[hxs]at SC
   obtain⟨P,hPP⟩:∃P,holdL ds xs=P:=⟨_,rfl⟩
   have HF:Hid (P=false→R=false):=fun e=>by rw[←HR.out];exact holdS_no hlt (by rw[hd,hxs,hPP];exact e)
   have HV:Hid (P=true→∀m,m<k+1→holdL ds (sl (ds.getD m pdD))=true):=fun e m hm=>by
    by_cases e':m=k
    ·rw[e',hd,hxs,hPP];exact e
    ·exact HAL.out m (by omega)
   have HC2:Hid (∀V,Below w.heap.size w V→∀(u:Value),IntsAt V u xs→Calls Tryz.prog 118 #[rmv up (.slice (some ⟨b,off,none⟩) ds.length cap),u] V fun e w'=>e = .returned (.bool P)∧Below V.heap.size V w'):=fun V hV u h1=>by
    have:=HCL.out V hV u xs h1 sl1 sl2
    rwa [hPP]at this
   have HSC:Hid _:=SC
   clear SC HCL hd hxs hPP hall bw hB sl1 sl2
   obtain⟨ds',df,dc,dh,dp,dm,du,dl⟩:=d
   simp only at k0 k1 k2 k3 k4 k5 k6 k7 hsv HSC
   subst hsv
   go_upto_region 4 with fail
   have BY:Below wr.heap.size wr (wr.alloc (pdb ⟨ds',df,dc,dh,dp,dm,.slice sa sn sc,dl⟩)):=(Below.refl _ _).alloc (Nat.le_refl _) _
   have HBY:Hid (Below X.heap.size X (wr.alloc (pdb ⟨ds',df,dc,dh,dp,dm,.slice sa sn sc,dl⟩))):=HB.out.trans (BY.mono HB.out.size)
   obtain⟨⟨p0,p1,p2,p3,p4,p5,p6,p7⟩,_⟩:=pdb_cells (heap_alloc_new wr (pdb ⟨ds',df,dc,dh,dp,dm,.slice sa sn sc,dl⟩))
   simp only at p0 p1 p2 p3 p4 p5 p6 p7
   clear BY k0 k1 k2 k3 k4 k5 k6 k7
   generalize hY:wr.alloc (pdb ⟨ds',df,dc,dh,dp,dm,.slice sa sn sc,dl⟩)=Y at *
   clear hY
   obtain⟨⟨z0,z1⟩,_⟩:=HALL.out Y HBY.out
   have HG:Hid (∀(V w':World),Below V.heap.size V w'→Below Y.heap.size Y V→(w'.cell? ⟨w.heap.size,0,none⟩=some (.int .i64 up)∧w'.cell? ⟨w.heap.size,1,none⟩=some (.slice (some ⟨b,off,none⟩) ds.length cap))∧Below X.heap.size X w'∧Below w.heap.size w w'):=by
    intro V w' h1 h2
    have hX:Below X.heap.size X w':=HBY.out.trans ((h2.trans (h1.mono h2.size)).mono HBY.out.size)
    obtain⟨hz,hw⟩:=HALL.out w' hX
    exact⟨hz,hX,hw⟩
   have HGB:Hid (∀V,Below Y.heap.size Y V→Below w.heap.size w V):=fun V hV=>(HG.out Y V hV (Below.refl _ _)).2.2
   go_cut [17] from 12 to 16 (fun v wz=>v = .bool (!P)∧Hid (Below X.heap.size X wz))
   case first=>
    go_region_law (first
     |(go_simp;go_at_call 63;refine Calls.mono (HSC.out _ (HGB.out _ ⟨rfl,rfl,rfl,Nat.le_refl _,fun _ _=>rfl⟩)) ?_;rintro e w5 ⟨ua,un,uc,rfl,i5,b5⟩;obtain⟨⟨t0,t1⟩,x5,y5⟩:=HG.out _ _ b5 ⟨rfl,rfl,rfl,Nat.le_refl _,fun _ _=>rfl⟩;have HI5:Hid _:=i5;have HX5:Hid _:=x5;have HW5:Hid _:=y5;clear HSC i5 x5 y5 b5 HG HGB)
     |(go_simp;go_at_call 118;refine Calls.mono (HC2.out _ ⟨HW5.out.os,HW5.out.tape,HW5.out.output,HW5.out.size,HW5.out.block⟩ _ HI5.out) ?_;rintro e w6 ⟨rfl,b6⟩;have HX6:Hid (Below X.heap.size X w6):=HX5.out.trans ((⟨b6.os,b6.tape,b6.output,b6.size,b6.block⟩:Below w5.heap.size w5 w6).mono HX5.out.size);clear HC2 b6))
    all_goals (go_wp2_with fail)
    all_goals go_meet
    all_goals exact⟨rfl,HX6.out⟩
   obtain⟨rfl,bc⟩:=hcut
   clear z0 z1 p0 p1 p2 p3 p4 p5 p6 p7 HC2 HSC HG HGB
   cases P
   ·have HF0:Hid _:=HF.out rfl
    obtain⟨_,bw⟩:=HALL.out wc bc.out
    have HBE:Hid _:=bw
    clear bw
    go_wp2
    go_ret
    exact⟨by rw[HF0.out];rfl,HBE.out⟩
   ·have HV0:Hid _:=HV.out rfl
    go_wp2
    exact⟨⟨k+1,by omega,by go_num,HV0.out,bc.out⟩,by simp[intOf];omega⟩
  ·have hlt':¬(k:Int)<(ds.length:Int):=by omega
   have HF:Hid (R=true):=by show _=_;rw[←HR.out];exact holdS_yes (fun m hm=>hall m (by omega))
   clear hB hall bw
   go_wp2
   go_ret
   exact⟨by rw[HF.out];rfl,HBW.out⟩
end Go.Proofs.YtemlagfaaibenaaGreat.hp
namespace Go.Proofs.YtemlagfaaibenaaGreat.hp
open Go.RowKit rows heads words walks
set_option maxRecDepth 100000
set_option linter.unusedVariables false
theorem walkL_up (xs:List Int) (t:Nat) (ht:t≤xs.length):∀(n k:Nat) (l:List Int),walkL xs t n k=some l→l.Pairwise (· < ·):=by
 intro n
 induction n with
 |zero=>
  intro k l h
  unfold walkL at h
  split at h
  ·cases h
  ·cases h;exact List.Pairwise.nil
 |succ n ih=>
  intro k l h
  by_cases h1:k<t
  ·by_cases hb:chunk xs k=0∨(k:Int)+chunk xs k > t
   ·rw[walkL_bad _ _ _ _ h1 hb]at h;cases h
   ·rw[walkL_step _ _ _ _ h1 hb]at h
    obtain⟨l',hl',rfl⟩:=Option.map_eq_some_iff.1 h
    refine List.Pairwise.cons (fun x hx => ?_) (ih _ _ hl')
    obtain⟨j,e,b,_,_⟩:=walkL_mem xs t ht _ _ _ hl' x hx
    have:=chunk_bounds xs k
    omega
  ·rw[walkL_end _ _ _ _ h1]at h
   cases h;exact List.Pairwise.nil
theorem walked_up (xs:List Int) (f t:Int):(walked xs f t).Pairwise (· < ·)∧∀x ∈ walked xs f t,f≤x∧x<t∧0≤x:=by
 unfold walked walkR
 split
 ·rename_i hr
  simp only[rangeOk,Bool.and_eq_true,decide_eq_true_eq]at hr
  cases e:walkO xs f.toNat t.toNat with
  |none=>simp
  |some l=>
   refine⟨walkL_up xs t.toNat (by omega) _ _ _ e,fun x hx => ?_⟩
   obtain⟨j,a,b,c,d⟩:=walkL_mem xs t.toNat (by omega) _ _ _ e x (by simpa using hx)
   omega
 ·simp
theorem pdsOf_up {a:Option Addr} {xs:List Int} {ps:List Int} (h:ps.Pairwise (· < ·)) (h0:∀x ∈ ps,0≤x):(pdsOf a xs ps).Pairwise (fun d e=>d.pl<e.pl):=by
 unfold pdsOf
 rw[List.pairwise_map]
 refine h.imp_of_mem fun {x y} hx hy hxy => ?_
 have:=h0 x hx
 have:=h0 y hy
 show ((x.toNat:Nat):Int)<(y.toNat:Nat)
 omega
theorem riseP_of {ds:List Pd} (h:ds.Pairwise (fun d e=>d.pl<e.pl)):RiseP ds:=by
 intro i j hij hj
 have:=List.pairwise_iff_getElem.1 h i j (by omega) hj hij
 simpa [List.getD_eq_getElem?_getD,List.getElem?_eq_getElem hj,List.getElem?_eq_getElem (show i<ds.length by omega)] using this
theorem objs_rise {a:Option Addr} {H:Hp} (hn:numB H=true):RiseP (objsP a H):=by
 obtain⟨N⟩:=numN hn
 have h1:=walked_up H.row (frO H) (toO H)
 have h2:=walked_up H.row (2*H.half) (2*H.half+H.old)
 have et:toO H=frO H+H.top:=rfl
 refine riseP_of ?_
 unfold objsP
 rw[List.pairwise_append]
 refine⟨pdsOf_up h1.1 (fun x hx=>(h1.2 x hx).2.2),(pdsOf_up h2.1 (fun x hx=>(h2.2 x hx).2.2)).filter _,fun d hd e he => ?_⟩
 obtain⟨x,hx,rfl⟩:=List.mem_map.1 hd
 obtain⟨y,hy,rfl⟩:=List.mem_map.1 (List.mem_filter.1 he).1
 have q1:=h1.2 x hx
 have q2:=h2.2 y hy
 have:=N.lt
 have:=N.ef
 have:=N.et
 have:=N.eh
 show ((x.toNat:Nat):Int)<(y.toNat:Nat)
 omega
def cnP (d:Pd):Nat:=if d.f=7 then 1 else d.s.toNat
def slP (xs:List Int) (d:Pd):List Int:=(xs.drop (d.pl.toNat+1)).take (cnP d)
theorem chunk_fits {xs:List Int} {j:Nat} (h:chunk xs j≠0) (h6:uF (xs.getD j 0)≠6):0≤uS (xs.getD j 0)∧1+uS (xs.getD j 0)≤chunk xs j∧2≤chunk xs j∧(j:Int)+chunk xs j≤xs.length:=by
 obtain⟨s1,s2⟩:=uS_bounds (xs.getD j 0)
 have sb:=sz_bounds s1 s2
 have e:chunk xs j=sz (uS (xs.getD j 0)):=by
  unfold chunk at h ⊢
  by_cases h0:(ok (xs.getD j 0) && !uM (xs.getD j 0))=true
  ·rw[if_pos h0,if_neg h6]at h ⊢
   by_cases h3:(j:Int)+sz (uS (xs.getD j 0))≤xs.length∧(uF (xs.getD j 0)=7→isA (xs.getD (j+1) 0)=true)
   ·rw[if_pos h3]
   ·rw[if_neg h3]at h;exact absurd rfl h
  ·rw[if_neg h0]at h;exact absurd rfl h
 have b:=chunk_bounds xs j
 omega
def InRow (a:Option Addr) (xs:List Int) (d:Pd):Prop:=∃j:Nat,d=pdOf a xs j∧chunk xs j≠0∧uF (xs.getD j 0)≠6
theorem objs_in {a:Option Addr} {H:Hp} (hr:roomB a H=true):∀d ∈ objsP a H,InRow a H.row d:=by
 unfold roomB at hr
 simp only[Bool.and_eq_true,Bool.not_eq_true']at hr
 have hu:=hr.1.1.2
 intro d hd
 unfold objsP at hd
 rcases List.mem_append.1 hd with hd|hd
 ·have h6:=List.any_eq_false.1 hu d hd
  obtain⟨x,hx,rfl⟩:=List.mem_map.1 hd
  obtain⟨j,rfl,_,_,hc⟩:=walked_mem hx
  refine⟨j,by simp,hc,fun e=>h6 ?_⟩
  show ((uF (H.row.getD (j:Int).toNat 0)==6) || _)=true
  rw[Int.toNat_natCast,e]
  rfl
 ·obtain⟨hd,h6⟩:=List.mem_filter.1 hd
  obtain⟨x,hx,rfl⟩:=List.mem_map.1 hd
  obtain⟨j,rfl,_,_,hc⟩:=walked_mem hx
  refine⟨j,by simp,hc,fun e => ?_⟩
  have h6':(!(uF (H.row.getD (j:Int).toNat 0)==6))=true:=h6
  rw[Int.toNat_natCast,e]at h6'
  cases h6'
theorem cnP_of (a:Option Addr) (xs:List Int) (j:Nat):cnP (pdOf a xs j)=if uF (xs.getD j 0)=7 then 1 else (uS (xs.getD j 0)).toNat:=rfl
theorem inRow_slots {a:Option Addr} {xs:List Int} {d:Pd} (h:InRow a xs d):(d.pl.toNat:Int)+1+cnP d≤xs.length:=by
 obtain⟨j,rfl,hc,h6⟩:=h
 have q:=chunk_fits hc h6
 have hj:(pdOf a xs j).pl.toNat=j:=by simp[pdOf]
 rw[hj,cnP_of]
 by_cases h7:uF (xs.getD j 0)=7
 ·rw[if_pos h7];omega
 ·rw[if_neg h7];omega
theorem slots_in {w:World} {b off cap:Nat} {xs:List Int} (hx:IntsAt w (.slice (some ⟨b,off,none⟩) xs.length cap) xs) (hl:xs.length≤1000) {d:Pd} (hd:InRow (some ⟨b,off,none⟩) xs d) :
    Calls Tryz.prog 63 #[cv d.s d.f d.c d.h d.p d.m d.u] w fun e w'=>∃ua un uc,e = .returned (.slice ua un uc)∧IntsAt w' (.slice ua un uc) (slP xs d)∧Below w.heap.size w w':=by
 have hsl:=inRow_slots hd
 obtain⟨j,rfl,hc,h6⟩:=hd
 have q:=chunk_fits hc h6
 have eu:(pdOf (some ⟨b,off,none⟩) xs j).u = .slice (some ⟨b,off+j,none⟩) (chunk xs j).toNat (chunk xs j).toNat:=piece_at b off j _ (by omega)
 rw[eu]
 have hn:(if uF (xs.getD j 0)=7 then 1 else uS (xs.getD j 0))=((cnP (pdOf (some ⟨b,off,none⟩) xs j):Nat):Int):=by
  rw[cnP_of]
  by_cases h7:uF (xs.getD j 0)=7
  ·rw[if_pos h7];first|rw[if_pos h7];rfl|omega
  ·rw[if_neg h7];first|(rw[if_neg h7];omega)|omega
 have hle:1+cnP (pdOf (some ⟨b,off,none⟩) xs j)≤(chunk xs j).toNat:=by
  rw[cnP_of]
  by_cases h7:uF (xs.getD j 0)=7
  ·rw[if_pos h7];first|rw[if_pos h7];rfl|omega
  ·rw[if_neg h7];first|(rw[if_neg h7];omega)|omega
 refine (slots_any _ _ _ _ _ _ b (off+j) (chunk xs j).toNat (cnP (pdOf (some ⟨b,off,none⟩) xs j)) w (by omega) hn hle).mono ?_
 rintro e w' ⟨rfl,hb⟩
 have hp:IntsAt w (piece (some ⟨b,off+j,none⟩) 1 (cnP (pdOf (some ⟨b,off,none⟩) xs j))) (slP xs (pdOf (some ⟨b,off,none⟩) xs j)):=by
  unfold slP
  have hj:(pdOf (some ⟨b,off,none⟩) xs j).pl.toNat=j:=by simp[pdOf]
  rw[hj]at hsl ⊢
  by_cases h0:cnP (pdOf (some ⟨b,off,none⟩) xs j)=0
  ·rw[h0,piece_none,List.take_zero]
   exact⟨some ⟨b,off+j,none⟩,0,rfl,by simp,by decide,fun _=>rfl,fun h=>by simp at h⟩
  ·rw[piece_at b (off+j) 1 _ (by omega)]
   have:=piece_is hx (by omega) (j+1) (cnP (pdOf (some ⟨b,off,none⟩) xs j)) (by omega)
   rw[piece_at b off (j+1) _ (by omega)]at this
   rwa [show off+j+1=off+(j+1) by omega]
 exact⟨_,_,_,rfl,intsAt_below hp hb,hb⟩
theorem slotsP_of {w:World} {b off cap:Nat} {xs:List Int} (hx:IntsAt w (.slice (some ⟨b,off,none⟩) xs.length cap) xs) (hl:xs.length≤1000) (ha:AllI xs) {ds:List Pd} (hd:∀d ∈ ds,InRow (some ⟨b,off,none⟩) xs d):SlotsP w ds (slP xs) where
 call V hV i hi:=slots_in (intsAt_below hx hV) hl (hd _ (mem_getDP hi))
 len i hi:=by unfold slP;rw[List.length_take,List.length_drop];omega
 num i hi:=fun x hx'=>ha x (List.mem_of_mem_drop (List.mem_of_mem_take hx'))
end Go.Proofs.YtemlagfaaibenaaGreat.hp
namespace Go.Proofs.YtemlagfaaibenaaGreat.hp
open Go.RowKit rows heads words walks
set_option maxRecDepth 100000
set_option linter.unusedVariables false
set_option linter.unusedSimpArgs false
def yngW (up:Int) (x:Int):Bool:=isA x&&decide (av x<up)
theorem isYoung_any (up:Int) (a:Option Addr) (n c:Nat) (x:Int) (w:World) (b1 : -9223372036854775808≤x) (b2:x≤9223372036854775807) :
    Calls Tryz.prog 121 #[rmv up (.slice a n c),.int .i64 x] w fun e w'=>e = .returned (.bool (yngW up x))∧Below w.heap.size w w':=by
 have B0:Below w.heap.size w (w.alloc (rmb up (.slice a n c))):=(Below.refl _ _).alloc (Nat.le_refl _) _
 have HB0:Hid _:=B0
 have AO:=addrOf_any x (w.alloc (rmb up (.slice a n c))) b1 b2
 obtain⟨⟨k0,k1⟩,_⟩:=rmb_cells (heap_alloc_new w (rmb up (.slice a n c)))
 unfold yngW
 cases hA:isA x
 ·rw[hA]at AO
  generalize av x=ax at *
  clear B0 hA b1 b2
  go_enter Tryz.func121,Tryz.ntmps121
  go_upto_region 1 with fail
  generalize w.alloc (rmb up (.slice a n c))=X at *
  go_wp2_with (go_at_call 122;refine AO.mono ?_;clear AO;rintro e w3 ⟨rfl,hw3⟩;rw[hw3];clear hw3 w3)
  go_ret
  exact⟨rfl,HB0.out⟩
 ·rw[hA]at AO
  generalize av x=ax at *
  clear B0 hA b1 b2
  go_enter Tryz.func121,Tryz.ntmps121
  go_upto_region 1 with fail
  generalize w.alloc (rmb up (.slice a n c))=X at *
  go_wp2_with (go_at_call 122;refine AO.mono ?_;clear AO;rintro e w3 ⟨rfl,hw3⟩;rw[hw3];clear hw3 w3)
  go_ret
  exact⟨rfl,HB0.out⟩
def idxY (up:Int) (xs:List Int):Int:=match xs.findIdx? (yngW up) with|some i=>(i:Int)|none => -1
theorem idxY_at {up:Int} {xs:List Int} {k:Nat} (hk:k<xs.length) (h:yngW up (xs.getD k 0)=true) (hn:∀m,m<k→yngW up (xs.getD m 0)=false):idxY up xs=k:=by
 unfold idxY
 have e:xs.findIdx? (yngW up)=some k:=by
  rw[List.findIdx?_eq_some_iff_getElem]
  refine⟨hk,?_,fun j hj => ?_⟩
  ·simpa [List.getD_eq_getElem?_getD,List.getElem?_eq_getElem hk] using h
  ·have:=hn j hj
   simpa [List.getD_eq_getElem?_getD,List.getElem?_eq_getElem (show j<xs.length by omega)] using this
 rw[e]
theorem idxY_no {up:Int} {xs:List Int} (hn:∀m,m<xs.length→yngW up (xs.getD m 0)=false):idxY up xs = -1:=by
 unfold idxY
 have e:xs.findIdx? (yngW up)=none:=by
  rw[List.findIdx?_eq_none_iff]
  intro x hx
  obtain⟨m,hm,rfl⟩:=List.getElem_of_mem hx
  have:=hn m hm
  simpa [List.getD_eq_getElem?_getD,List.getElem?_eq_getElem hm] using this
 rw[e]
theorem idxY_any (up:Int) (xs:List Int):decide (idxY up xs ≥ 0)=xs.any (yngW up):=by
 unfold idxY
 cases e:xs.findIdx? (yngW up) with
 |none=>
  rw[List.findIdx?_eq_none_iff]at e
  have:xs.any (yngW up)=false:=by
   rw[List.any_eq_false]
   intro x hx h
   rw[e x hx]at h;cases h
  rw[this];decide
 |some i=>
  rw[List.findIdx?_eq_some_iff_getElem]at e
  obtain⟨hi,ht,_⟩:=e
  have:xs.any (yngW up)=true:=by
   rw[List.any_eq_true]
   exact⟨_,List.getElem_mem hi,ht⟩
  rw[this];simp
set_option maxHeartbeats 4000000 in
theorem indexYoung_any {w:World} {up:Int} {a:Option Addr} {n c:Nat} {u:Value} {xs:List Int} (h:IntsAt w u xs) (hl:xs.length≤1048576) (ha:AllI xs) :
    Calls Tryz.prog 98 #[u,.func (.func 121) #[rmv up (.slice a n c)] #[]] w fun e w'=>e = .returned (.int .i64 (idxY up xs))∧Below w.heap.size w w':=by
 have HI:Hid _:=h
 have HA:Hid _:=ha
 obtain⟨a2,cap2,rfl,_,_,_,_⟩:=h
 obtain⟨R,hR⟩:∃R,idxY up xs=R:=⟨_,rfl⟩
 rw[hR]
 have HR:Hid _:=hR
 clear hR ha
 go_enter Tryz.func98,Tryz.ntmps98
 go_wp2_with fail
 go_loopw [5,8] (fun _ q wr=>∃k:Nat,k≤xs.length∧q = .int .i64 (k:Int)∧(∀m,m<k→yngW up (xs.getD m 0)=false)∧Below w.heap.size w wr) (fun _ q _=>xs.length-(intOf q).toNat)
 case atStart=>exact⟨0,Nat.zero_le _,rfl,fun m hm=>by omega,Below.refl _ _⟩
 case round=>
  obtain⟨k,hk,rfl,hne,hB⟩:=hrel
  have HNE:Hid _:=hne
  have HB:Hid _:=hB
  by_cases hlt:k<xs.length
  ·obtain⟨b,off,ea,_,x0⟩:=ints_cellI (intsAt_below HI.out hB) hlt
   subst ea
   obtain⟨y,hy⟩:∃y,xs.getD k 0=y:=⟨_,rfl⟩
   have hyb:=HA.out y (by rw[←hy,List.getD_eq_getElem?_getD,List.getElem?_eq_getElem hlt];exact List.getElem_mem hlt)
   have CY:=isYoung_any up a n c y wr hyb.1 hyb.2
   have HF1:Hid (yngW up y=false→∀m,m<k+1→yngW up (xs.getD m 0)=false):=fun e m hm=>by
    by_cases e':m=k
    ·rw[e',hy];exact e
    ·exact HNE.out m (by omega)
   have HF2:Hid (yngW up y=true→R=k):=fun e=>HR.out.symm.trans (idxY_at hlt (by rw[hy];exact e) HNE.out)
   rw[hy]at x0
   have hlt':(k:Int)<(xs.length:Int):=by omega
   clear hne hB hyb hy
   cases hw:yngW up y
   ·rw[hw]at CY
    have HV:Hid _:=HF1.out hw
    clear hw HF1 HF2
    go_wp2_with (go_at_call 121;refine CY.mono ?_;clear CY;rintro e w3 ⟨rfl,b3⟩;have HB3:Hid _:=HB.out.trans (b3.mono HB.out.size);clear b3)
    exact⟨⟨k+1,by omega,by go_num,HV.out,HB3.out⟩,by simp[intOf];omega⟩
   ·rw[hw]at CY
    have HV:Hid _:=HF2.out hw
    clear hw HF1 HF2
    go_wp2_with (go_at_call 121;refine CY.mono ?_;clear CY;rintro e w3 ⟨rfl,b3⟩;have HB3:Hid _:=HB.out.trans (b3.mono HB.out.size);clear b3)
    go_ret
    exact⟨by rw[HV.out];rfl,HB3.out⟩
  ·have hlt':¬(k:Int)<(xs.length:Int):=by omega
   have HF:Hid (R = -1):=by show _=_;rw[←HR.out];exact idxY_no (fun m hm=>hne m (by omega))
   clear hne hB
   go_wp2
   go_ret
   exact⟨by rw[HF.out];rfl,HB.out⟩
theorem containsYoung_any {w:World} {up:Int} {a:Option Addr} {n c:Nat} {u:Value} {xs:List Int} (h:IntsAt w u xs) (hl:xs.length≤1048576) (ha:AllI xs) :
    Calls Tryz.prog 64 #[u,.func (.func 121) #[rmv up (.slice a n c)] #[]] w fun e w'=>e = .returned (.bool (xs.any (yngW up)))∧Below w.heap.size w w':=by
 have IX:=indexYoung_any (up:=up) (a:=a) (n:=n) (c:=c) h hl ha
 obtain⟨a2,cap2,rfl,_,_,_,_⟩:=h
 rw[←idxY_any]
 generalize idxY up xs=R at *
 clear ha
 go_enter Tryz.func64,Tryz.ntmps64
 go_wp2_with (go_at_call 98;refine IX.mono ?_;clear IX;rintro e w3 ⟨rfl,b3⟩;have HB3:Hid _:=b3;clear b3)
 go_ret
 exact⟨rfl,HB3.out⟩
set_option maxHeartbeats 8000000 in
theorem seesYoung_any {w:World} {up:Int} {a:Option Addr} {n c:Nat} {d:Pd} {xs:List Int} (hu:∃a n c,d.u = .slice a n c) (hl:xs.length≤1048576) (ha:AllI xs)
    (hS:∀V,Below w.heap.size w V→Calls Tryz.prog 63 #[cv d.s d.f d.c d.h d.p d.m d.u] V fun e w'=>∃ua un uc,e = .returned (.slice ua un uc)∧IntsAt w' (.slice ua un uc) xs∧Below V.heap.size V w') :
    Calls Tryz.prog 97 #[rmv up (.slice a n c),pdv d] w fun e w'=>e = .returned (.bool (xs.any (yngW up)))∧Below w.heap.size w w':=by
 obtain⟨ds',df,dc,dh,dp,dm,du,dl⟩:=d
 obtain⟨sa,sn,sc,hsv⟩:=hu
 simp only at hsv hS
 subst hsv
 obtain⟨P,hP⟩:∃P,xs.any (yngW up)=P:=⟨_,rfl⟩
 have B0:Below w.heap.size w (w.alloc (rmb up (.slice a n c))):=(Below.refl _ _).alloc (Nat.le_refl _) _
 have B1:=B0.alloc B0.size (pdb ⟨ds',df,dc,dh,dp,dm,.slice sa sn sc,dl⟩)
 have HALL:Hid (∀V,Below ((w.alloc (rmb up (.slice a n c))).alloc (pdb ⟨ds',df,dc,dh,dp,dm,.slice sa sn sc,dl⟩)).heap.size ((w.alloc (rmb up (.slice a n c))).alloc (pdb ⟨ds',df,dc,dh,dp,dm,.slice sa sn sc,dl⟩)) V→(V.cell? ⟨w.heap.size,0,none⟩=some (.int .i64 up)∧V.cell? ⟨w.heap.size,1,none⟩=some (.slice a n c))∧V.heap[w.heap.size+1]? = some (pdb ⟨ds',df,dc,dh,dp,dm,.slice sa sn sc,dl⟩)∧Below w.heap.size w V):=by
  intro V hV
  have T1:=heap_alloc_new (w.alloc (rmb up (.slice a n c))) (pdb ⟨ds',df,dc,dh,dp,dm,.slice sa sn sc,dl⟩)
  have T2:Below (w.heap.size+1) (w.alloc (rmb up (.slice a n c))) V:=((Below.refl _ _).alloc (by simp) _).trans (hV.mono (by simp))
  have q0:V.heap[w.heap.size]? = some (rmb up (.slice a n c)):=(T2.block _ (by omega)).trans (heap_alloc_new w _)
  have q1:V.heap[w.heap.size+1]? = some (pdb ⟨ds',df,dc,dh,dp,dm,.slice sa sn sc,dl⟩):=(hV.block (w.heap.size+1) (by simp)).trans ((congrArg (fun k=>((w.alloc (rmb up (.slice a n c))).alloc (pdb ⟨ds',df,dc,dh,dp,dm,.slice sa sn sc,dl⟩)).heap[k]?) (show w.heap.size+1=(w.alloc (rmb up (.slice a n c))).heap.size by simp)).trans T1)
  exact⟨(rmb_cells q0).1,q1,B1.trans (hV.mono B1.size)⟩
 have HC:Hid (∀V u,IntsAt V u xs→Calls Tryz.prog 64 #[u,.func (.func 121) #[rmv up (.slice a n c)] #[]] V fun e w'=>e = .returned (.bool P)∧Below V.heap.size V w'):=fun V u hI=>by
  have:=containsYoung_any (up:=up) (a:=a) (n:=n) (c:=c) hI hl ha
  rwa [hP]at this
 have HSC:Hid _:=hS
 rw[hP]
 clear hS B0 B1 hP ha
 go_enter Tryz.func97,Tryz.ntmps97
 go_upto_region 1 with fail
 generalize (w.alloc _).alloc _=X at *
 obtain⟨⟨z0,z1⟩,q1,bX⟩:=HALL.out X (Below.refl _ _)
 obtain⟨⟨p0,p1,p2,p3,p4,p5,p6,p7⟩,_⟩:=pdb_cells q1
 simp only at p0 p1 p2 p3 p4 p5 p6 p7
 clear q1 bX
 have HG:Hid (∀(V w':World),Below V.heap.size V w'→Below X.heap.size X V→(w'.cell? ⟨w.heap.size,0,none⟩=some (.int .i64 up)∧w'.cell? ⟨w.heap.size,1,none⟩=some (.slice a n c))∧Below w.heap.size w w'):=by
  intro V w' h1 h2
  have hX:Below X.heap.size X w':=h2.trans (h1.mono h2.size)
  obtain⟨hz,_,hw⟩:=HALL.out w' hX
  exact⟨hz,hw⟩
 have HGB:Hid (∀V,Below X.heap.size X V→Below w.heap.size w V):=fun V hV=>(HG.out X V hV (Below.refl _ _)).2
 clear HALL
 go_region_law (first
  |(go_simp;go_at_call 63;refine Calls.mono (HSC.out _ (HGB.out _ ⟨rfl,rfl,rfl,Nat.le_refl _,fun _ _=>rfl⟩)) ?_;rintro e w5 ⟨ua,un,uc,rfl,i5,b5⟩;obtain⟨⟨t0,t1⟩,y5⟩:=HG.out _ _ b5 ⟨rfl,rfl,rfl,Nat.le_refl _,fun _ _=>rfl⟩;have HI5:Hid _:=i5;have HW5:Hid _:=y5;clear HSC i5 y5 b5 HG HGB)
  |(go_simp;go_at_call 64;refine Calls.mono (HC.out _ _ HI5.out) ?_;rintro e w6 ⟨rfl,b6⟩;have HX6:Hid (Below w.heap.size w w6):=HW5.out.trans ((⟨b6.os,b6.tape,b6.output,b6.size,b6.block⟩:Below w5.heap.size w5 w6).mono HW5.out.size);clear HC b6))
 all_goals go_wp2
 all_goals go_ret
 all_goals exact⟨rfl,HX6.out⟩
theorem same_lists {xs ys:List Int} (hl:xs.length=ys.length) (h:∀m,m<xs.length→xs.getD m 0=ys.getD m 0):xs=ys:=by
 refine List.ext_getElem hl fun i h1 h2 => ?_
 have:=h i h1
 simpa [List.getD_eq_getElem?_getD,List.getElem?_eq_getElem h1,List.getElem?_eq_getElem h2] using this
set_option maxHeartbeats 4000000 in
theorem equal_any {w:World} {u v:Value} {xs ys:List Int} (h1:IntsAt w u xs) (h2:IntsAt w v ys) (l1:xs.length≤1048576) (l2:ys.length≤1048576) :
    Calls Tryz.prog 59 #[u,v] w fun e w'=>e = .returned (.bool (decide (xs=ys)))∧Below w.heap.size w w':=by
 have H1:Hid _:=h1
 have H2:Hid _:=h2
 obtain⟨a1,c1,rfl,_,_,_,_⟩:=h1
 obtain⟨a2,c2,rfl,_,_,_,_⟩:=h2
 obtain⟨R,hR⟩:∃R,decide (xs=ys)=R:=⟨_,rfl⟩
 rw[hR]
 have HR:Hid _:=hR
 clear hR
 by_cases hl:xs.length=ys.length
 ·have HLN:Hid _:=hl
  have hle:(((xs.length:Int) != (ys.length:Int)))=false:=by simp[hl]
  have hle2:((xs.length:Int)==(ys.length:Int))=true:=by simp[hl]
  clear hl
  go_enter Tryz.func59,Tryz.ntmps59
  go_wp2_with fail
  go_loopw [5,13] (fun _ q wr=>∃k:Nat,k≤xs.length∧q = .int .i64 (k:Int)∧(∀m,m<k→xs.getD m 0=ys.getD m 0)∧Below w.heap.size w wr) (fun _ q _=>xs.length-(intOf q).toNat)
  case atStart=>exact⟨0,Nat.zero_le _,rfl,fun m hm=>by omega,Below.refl _ _⟩
  case round=>
   obtain⟨k,hk,rfl,hall,hB⟩:=hrel
   have HB:Hid _:=hB
   have HAL:Hid _:=hall
   by_cases hlt:k<xs.length
   ·have hlt2:k<ys.length:=by have:=HLN.out;omega
    obtain⟨b,off,ea,_,x0⟩:=ints_cellI (intsAt_below H1.out hB) hlt
    subst ea
    obtain⟨b',off',ea,_,y0⟩:=ints_cellI (intsAt_below H2.out hB) hlt2
    subst ea
    have hlt':(k:Int)<(xs.length:Int):=by omega
    have hlt2':(k:Int)<(ys.length:Int):=by omega
    obtain⟨x,hx⟩:∃x,xs.getD k 0=x:=⟨_,rfl⟩
    obtain⟨y,hy⟩:∃y,ys.getD k 0=y:=⟨_,rfl⟩
    rw[hx]at x0
    rw[hy]at y0
    have HF:Hid (¬x=y→R=false):=fun e=>by
     rw[←HR.out,decide_eq_false_iff_not]
     rintro rfl
     exact e (hx.symm.trans hy)
    have HV:Hid (x=y→∀m,m<k+1→xs.getD m 0=ys.getD m 0):=fun e m hm=>by
     by_cases e':m=k
     ·rw[e',hx,hy];exact e
     ·exact HAL.out m (by omega)
    clear hall hB hx hy
    by_cases hxy:x=y
    ·have HV0:Hid _:=HV.out hxy
     have e1:(x != y)=false:=by simp[hxy]
     have e2:(x==y)=true:=by simp[hxy]
     clear HV HF hxy
     go_upto_region 6 with fail
     go_quiet (fail)
     have HBD:Hid (Below w.heap.size w (wr.drewN nq)):=HB.out.trans ((bel_of_drewN ⟨_,rfl⟩:Below wr.heap.size wr (wr.drewN nq)).mono HB.out.size)
     clear x0 y0
     generalize wr.drewN nq=Z at *
     go_wp2
     exact⟨⟨k+1,by omega,by go_num,HV0.out,HBD.out⟩,by simp[intOf];omega⟩
    ·have HF0:Hid _:=HF.out hxy
     have e1:(x != y)=true:=by simp[hxy]
     have e2:(x==y)=false:=by simp[hxy]
     clear HV HF hxy
     go_upto_region 6 with fail
     go_quiet (fail)
     have HBD:Hid (Below w.heap.size w (wr.drewN nq)):=HB.out.trans ((bel_of_drewN ⟨_,rfl⟩:Below wr.heap.size wr (wr.drewN nq)).mono HB.out.size)
     clear x0 y0
     generalize wr.drewN nq=Z at *
     go_wp2
     go_ret
     exact⟨by rw[HF0.out];rfl,HBD.out⟩
   ·have hlt':¬(k:Int)<(xs.length:Int):=by omega
    have HF:Hid (R=true):=by show _=_;rw[←HR.out,decide_eq_true_eq];exact same_lists HLN.out (fun m hm=>hall m (by omega))
    clear hall hB
    go_wp2
    go_ret
    exact⟨by rw[HF.out];rfl,HB.out⟩
 ·have HF:Hid (R=false):=by
    show _=_
    rw[←HR.out,decide_eq_false_iff_not]
    rintro rfl
    exact hl rfl
  have hle:(((xs.length:Int) != (ys.length:Int)))=true:=by simp;omega
  have hle2:((xs.length:Int)==(ys.length:Int))=false:=by simp;omega
  clear hl
  go_enter Tryz.func59,Tryz.ntmps59
  go_wp2
  go_ret
  exact⟨by rw[HF.out];rfl,Below.refl _ _⟩
set_option maxHeartbeats 4000000 in
theorem allLead_any {w:World} {u:Value} {xs:List Int} (h:IntsAt w u xs) (hl:xs.length≤1048576) (ha:AllI xs) :
    Calls Tryz.prog 120 #[u] w fun e w'=>e = .returned (.bool (xs.all isA))∧w'=w:=by
 have HI:Hid _:=h
 have HA:Hid _:=ha
 obtain⟨a2,cap2,rfl,_,_,_,_⟩:=h
 obtain⟨R,hR⟩:∃R,xs.all isA=R:=⟨_,rfl⟩
 rw[hR]
 have HR:Hid _:=hR
 clear hR ha
 go_enter Tryz.func120,Tryz.ntmps120
 go_wp2_with fail
 go_loopw [4,7] (fun _ q wr=>∃k:Nat,k≤xs.length∧q = .int .i64 (k:Int)∧(∀m,m<k→isA (xs.getD m 0)=true)∧wr=w) (fun _ q _=>xs.length-(intOf q).toNat)
 case atStart=>exact⟨0,Nat.zero_le _,rfl,fun m hm=>by omega,rfl⟩
 case round=>
  obtain⟨k,hk,rfl,hall,hw⟩:=hrel
  subst hw
  have HAL:Hid _:=hall
  by_cases hlt:k<xs.length
  ·obtain⟨b,off,ea,_,x0⟩:=ints_cellI HI.out hlt
   subst ea
   obtain⟨y,hy⟩:∃y,xs.getD k 0=y:=⟨_,rfl⟩
   have hmem:y ∈ xs:=by rw[←hy,List.getD_eq_getElem?_getD,List.getElem?_eq_getElem hlt];exact List.getElem_mem hlt
   have hyb:=HA.out y hmem
   have CY:=isAddr_any y wr hyb.1 hyb.2
   have HF1:Hid (isA y=true→∀m,m<k+1→isA (xs.getD m 0)=true):=fun e m hm=>by
    by_cases e':m=k
    ·rw[e',hy];exact e
    ·exact HAL.out m (by omega)
   have HF2:Hid (isA y=false→R=false):=fun e=>by
    rw[←HR.out,List.all_eq_false]
    exact⟨y,hmem,by rw[e];decide⟩
   rw[hy]at x0
   have hlt':(k:Int)<(xs.length:Int):=by omega
   clear hall hyb hy hmem
   cases hw:isA y
   ·rw[hw]at CY
    have HV:Hid _:=HF2.out hw
    clear hw HF1 HF2
    go_wp2_with (go_at_call 137;refine CY.mono ?_;clear CY;rintro e w3 ⟨rfl,hw3⟩;rw[hw3];clear hw3 w3)
    go_ret
    exact⟨by rw[HV.out];rfl,rfl⟩
   ·rw[hw]at CY
    have HV:Hid _:=HF1.out hw
    clear hw HF1 HF2
    go_wp2_with (go_at_call 137;refine CY.mono ?_;clear CY;rintro e w3 ⟨rfl,hw3⟩;rw[hw3];clear hw3 w3)
    exact⟨⟨k+1,by omega,by go_num,HV.out,by trivial⟩,by simp[intOf];omega⟩
  ·have hlt':¬(k:Int)<(xs.length:Int):=by omega
   have HF:Hid (R=true):=by
    show _=_
    rw[←HR.out,List.all_eq_true]
    intro x hx
    obtain⟨m,hm,rfl⟩:=List.getElem_of_mem hx
    have:=hall m (by omega)
    rwa [List.getD_eq_getElem?_getD,List.getElem?_eq_getElem hm]at this
   clear hall
   go_wp2
   go_ret
   exact⟨by rw[HF.out];rfl,rfl⟩
def mustB (up:Int) (sl:Pd→List Int) (d:Pd):Bool:=decide (up≤d.pl)&&(sl d).any (yngW up)
def mustL (up:Int) (sl:Pd→List Int) (ds:List Pd):List Int:=(ds.filter (mustB up sl)).map (·.pl)
theorem mustL_next {up:Int} {sl:Pd→List Int} {ds:List Pd} {k:Nat} (hk:k<ds.length):mustL up sl (ds.take (k+1))=mustL up sl (ds.take k)++(if mustB up sl (ds.getD k pdD)=true then [(ds.getD k pdD).pl] else []):=by
 unfold mustL
 rw[List.take_add_one,List.filter_append,List.map_append,List.getElem?_eq_getElem hk,List.getD_eq_getElem?_getD,List.getElem?_eq_getElem hk]
 simp only[Option.toList_some,Option.getD_some]
 congr 1
 cases h:mustB up sl ds[k]<;>simp[h]
theorem mustL_len (up:Int) (sl:Pd→List Int) (ds:List Pd):(mustL up sl ds).length≤ds.length:=by
 unfold mustL
 rw[List.length_map]
 exact List.length_filter_le _ _
set_option maxHeartbeats 8000000 in
theorem mustSee_any {w:World} {up:Int} {v:Value} {ds:List Pd} {sl:Pd→List Int} (h:PdsAt w v ds) (hs:SlicesP ds) (hl:ds.length≤1048576) (hS:SlotsP w ds sl) :
    Calls Tryz.prog 60 #[rmv up v] w fun e w'=>∃u,e = .returned u∧rows.Own w' w.heap.size u (mustL up sl ds)∧Below w.heap.size w w':=by
 obtain⟨i0,hi,hz0,hz1,hz2⟩:=info_parts info
 have HI:Hid _:=And.intro hi (And.intro hz0 (And.intro hz1 hz2))
 obtain⟨a,cap,rfl⟩:=pds_slice h
 have HP:Hid _:=h
 have HSL:Hid _:=hs
 have B0:Below w.heap.size w (w.alloc (rmb up (.slice a ds.length cap))):=(Below.refl _ _).alloc (Nat.le_refl _) _
 have HALL:Hid (∀V,Below (w.alloc (rmb up (.slice a ds.length cap))).heap.size (w.alloc (rmb up (.slice a ds.length cap))) V→(V.cell? ⟨w.heap.size,0,none⟩=some (.int .i64 up)∧V.cell? ⟨w.heap.size,1,none⟩=some (.slice a ds.length cap))∧Below w.heap.size w V):=by
  intro V hV
  have q0:V.heap[w.heap.size]? = some (rmb up (.slice a ds.length cap)):=(hV.block _ (by simp)).trans (heap_alloc_new w _)
  exact⟨(rmb_cells q0).1,B0.trans (hV.mono B0.size)⟩
 have HSP:Hid _:=hS
 have sW:w.heap.size≤(w.alloc (rmb up (.slice a ds.length cap))).heap.size:=by simp
 clear h hs B0 hS hi hz0 hz1 hz2
 go_enter Tryz.func60,Tryz.ntmps60
 go_upto_region 1 with fail
 generalize w.alloc (rmb up (.slice a ds.length cap))=X at *
 have HOO:Hid _:=own_nothing X X.heap.size (Nat.le_refl _)
 have BX:Below X.heap.size X (X.alloc (.cells #[] 2)):=(Below.refl _ _).alloc (Nat.le_refl _) _
 have HBX:Hid _:=BX
 obtain⟨⟨z0,z1⟩,_⟩:=HALL.out _ BX
 clear BX
 go_wp2_with fail
 clear z0 z1
 go_loopw [3,5,10] (fun u _ q wr=>∃(k:Nat) (u0:Value),u0=u∧k≤ds.length∧q = .int .i64 (k:Int)∧rows.Own wr X.heap.size u0 (mustL up sl (ds.take k))∧Below X.heap.size X wr) (fun _ _ q _=>ds.length-(intOf q).toNat)
 case atStart=>exact⟨0,_,rfl,Nat.zero_le _,rfl,HOO.out,HBX.out⟩
 case round=>
  obtain⟨k,u0,rfl,hk,rfl,hO,hB⟩:=hrel
  have HB:Hid _:=hB
  obtain⟨⟨z0,z1⟩,bw⟩:=HALL.out wr hB
  have HO:Hid _:=hO
  have sr:=hB.size
  by_cases hlt:k<ds.length
  ·obtain⟨b,off,ea,hbl,k0,k1,k2,k3,k4,k5,k6,k7⟩:=pds_cell (pdsAt_below HP.out bw) hlt
   subst ea
   obtain⟨sa,sn,sc,hsv⟩:=HSL.out _ (mem_getDP hlt)
   have hlt':(k:Int)<(ds.length:Int):=by omega
   have SC:=fun V hV=>HSP.out.call V hV k hlt
   have sl1:=HSP.out.len k hlt
   have sl2:=HSP.out.num k hlt
   have HN:Hid _:=mustL_next (up:=up) (sl:=sl) hlt
   obtain⟨d,hd⟩:∃d,ds.getD k pdD=d:=⟨_,rfl⟩
   rw[hd]at k0 k1 k2 k3 k4 k5 k6 k7 hsv sl1 sl2
   simp only[hd]at SC HN
   obtain⟨xs,hxs⟩:∃xs,sl d=xs:=⟨_,rfl⟩
   rw[hxs]at sl1 sl2
   simp only[hxs]at SC
   have hmb:mustB up sl d=(decide (up≤d.pl)&&xs.any (yngW up)):=by unfold mustB;rw[hxs]
   rw[hmb]at HN
   obtain⟨ds',df,dc,dh,dp,dm,du,dl⟩:=d
   simp only at k0 k1 k2 k3 k4 k5 k6 k7 hsv SC HN
   subst hsv
   clear hmb hxs hd hO hB
   have BY:Below wr.heap.size wr (wr.alloc (pdb ⟨ds',df,dc,dh,dp,dm,.slice sa sn sc,dl⟩)):=(Below.refl _ _).alloc (Nat.le_refl _) _
   have CS:=seesYoung_any (w:=wr.alloc (pdb ⟨ds',df,dc,dh,dp,dm,.slice sa sn sc,dl⟩)) (up:=up) (a:=some ⟨b,off,none⟩) (n:=ds.length) (c:=cap) (d:=⟨ds',df,dc,dh,dp,dm,.slice sa sn sc,dl⟩) (xs:=xs) ⟨_,_,_,rfl⟩ sl1 sl2 (fun V hV=>SC V (bw.trans ((BY.trans (hV.mono BY.size)).mono bw.size)))
   obtain⟨⟨p0,p1,p2,p3,p4,p5,p6,p7⟩,_⟩:=pdb_cells (heap_alloc_new wr (pdb ⟨ds',df,dc,dh,dp,dm,.slice sa sn sc,dl⟩))
   simp only at p0 p1 p2 p3 p4 p5 p6 p7
   have HBY:Hid _:=BY
   obtain⟨P,hP⟩:∃P,xs.any (yngW up)=P:=⟨_,rfl⟩
   rw[hP]at CS HN
   clear hP SC sl1 sl2 bw z0 z1 BY
   go_upto_region 5 with fail
   clear k0 k1 k2 k3 k4 k5 k6 k7
   have sY:wr.heap.size<(wr.alloc (pdb ⟨ds',df,dc,dh,dp,dm,.slice sa sn sc,dl⟩)).heap.size:=by simp
   have HY:Hid (Below X.heap.size X (wr.alloc (pdb ⟨ds',df,dc,dh,dp,dm,.slice sa sn sc,dl⟩))):=HB.out.trans (HBY.out.mono HB.out.size)
   have HOY:Hid (rows.Own (wr.alloc (pdb ⟨ds',df,dc,dh,dp,dm,.slice sa sn sc,dl⟩)) X.heap.size u0 (mustL up sl (ds.take k))):=own_below HO.out HBY.out
   obtain⟨⟨z0,z1⟩,_⟩:=HALL.out _ HY.out
   generalize wr.alloc (pdb ⟨ds',df,dc,dh,dp,dm,.slice sa sn sc,dl⟩)=Y at *
   by_cases hge:dl ≥ up
   ·have hle:up≤dl:=hge
    rw[decide_eq_true hle,Bool.true_and]at HN
    cases P
    ·rw[if_neg (by decide),List.append_nil]at HN
     go_wp2_with (go_at_call 97;refine CS.mono ?_;clear CS p0 p1 p2 p3 p4 p5 p6 p7 z0 z1;rintro e w5 ⟨rfl,b5⟩;have HB5:Hid _:=b5;clear b5)
     exact⟨⟨k+1,_,rfl,by omega,by go_num,by rw[HN.out];exact own_below HOY.out HB5.out,HY.out.trans (HB5.out.mono HY.out.size)⟩,by simp[intOf];omega⟩
    ·rw[if_pos rfl]at HN
     obtain⟨qs,hqs⟩:∃qs,mustL up sl (ds.take k)=qs:=⟨_,rfl⟩
     have hql:qs.length≤1048576:=by rw[←hqs];exact Nat.le_trans (mustL_len _ _ _) (by simp;omega)
     rw[hqs]at HN HOY
     clear hqs HO
     obtain⟨va,vcp,rfl,_,_,_,_⟩:=own_ints HOY.out
     have HSTEP:Hid (∀(w5:World),Below Y.heap.size Y w5→∀(v':Value) (w6:World),w6.ownsRow X.heap.size 2 1 v' (qs.length+1) (cellsOf qs++[.int .i64 dl])→(w5.alloc (.cells #[.int .i64 dl] 2)).grownBy w6 (Value.slice va qs.length vcp).ownBlock→(v'.ownBlock=(Value.slice va qs.length vcp).ownBlock∨v'.ownBlock=some (w5.alloc (.cells #[.int .i64 dl] 2)).heap.size)→(∃a n c,v' = .slice a n c)∧rows.Own w6 X.heap.size v' (mustL up sl (ds.take (k+1)))∧Below X.heap.size X w6):=fun w5 b5 v' w6 h1 h2 h3=>by
      obtain⟨on,gr,nb⟩:=app_int h1 h2 h3
      rw[HN.out]
      obtain⟨a',c',e',_⟩:=own_ints on
      have B5:=HY.out.trans (b5.mono HY.out.size)
      exact⟨⟨_,_,_,e'⟩,on,below_grown B5 gr (own_lt (own_below HOY.out b5)) B5.size⟩
     go_wp2_with (first
      |(go_at_call 97;refine CS.mono ?_;clear CS z0 z1;rintro e w5 ⟨rfl,b5⟩;have p7':=(b5.cell (p:=⟨wr.heap.size,7,none⟩) sY).trans p7;have HOA:Hid (rows.Own (w5.alloc (.cells #[.int .i64 dl] 2)) X.heap.size (.slice va qs.length vcp) qs):=World.ownsRow.alloc (own_below HOY.out b5) _;have hba:X.heap.size≤(w5.alloc (.cells #[.int .i64 dl] 2)).heap.size:=(by have:=b5.size;have:=HY.out.size;simp;omega);have HNW:Hid _:=one_int w5 dl;have HST5:Hid _:=HSTEP.out w5 b5;clear p0 p1 p2 p3 p4 p5 p6 p7 b5 HSTEP)
      |(refine wpList_append_own_at _ rfl (.tmp 24) (.tmp 27) 22 rfl X.heap.size 2 i0 (.int .i64 0) 1 8 Tryz.underlying22 HI.out.1 HI.out.2.1 HI.out.2.2.1 HI.out.2.2.2 rfl (by decide) (.slice va qs.length vcp) qs.length (cellsOf qs) rfl HOA.out ⟨w5.heap.size,0,none⟩ 1 1 [.int .i64 dl] rfl rfl HNW.out (by simp[Value.oneCell']) (by unfold maxLen;omega) (by omega) hba ?_;intro v' w6 hown hgrow _ hat;obtain⟨⟨va',vn',vc',rfl⟩,st⟩:=HST5.out v' w6 hown hgrow hat;have HST:Hid _:=st;clear st hown hgrow hat))
     exact⟨⟨k+1,_,rfl,by omega,by go_num,HST.out⟩,by simp[intOf];omega⟩
   ·have hle:¬up≤dl:=hge
    rw[decide_eq_false hle,Bool.false_and,if_neg (by decide),List.append_nil]at HN
    clear CS
    go_wp2
    exact⟨⟨k+1,_,rfl,by omega,by go_num,by rw[HN.out];exact HOY.out,HY.out⟩,by simp[intOf];omega⟩
  ·have e:k=ds.length:=by omega
   subst e
   rw[List.take_length]at hO
   have HF:Hid _:=hO
   have HBW:Hid _:=bw
   have hlt':¬(ds.length:Int)<(ds.length:Int):=by omega
   clear hO hB bw z0 z1
   go_wp2
   go_ret
   exact⟨_,rfl,own_base HF.out sW,HBW.out⟩
theorem numB_bad (H:Hp):hbad H=false↔(numB H=true∧H.roots.length=6∧H.mourned.length≤40):=by
 unfold numB sideB evn hbad hb8 hb7 hb6 hb5 hb4 hb3 hb2 hb1 hb0
 simp only[inR,Bool.or_eq_false_iff,Bool.not_eq_false',Bool.and_eq_true,Bool.or_eq_true,decide_eq_true_eq,beq_iff_eq,bne_eq_false_iff_eq,decide_eq_false_iff_not]
 omega
theorem num_parts {H:Hp} (hn:numB H=true):∃half old top fr:Nat,H.half=half∧H.old=old∧H.top=top∧frO H=fr∧hf H=half∧od H=old∧tp H=top∧bs H=fr∧fr+top≤2*half∧H.row.length=2*half+old∧half≤200∧old≤400:=by
 obtain⟨N⟩:=numN hn
 refine⟨N.half,N.old,N.top,N.fr,N.eh,N.eo,N.et,N.ef,?_,?_,?_,?_,N.lt,N.ln,N.bh,N.bo⟩
 ·unfold hf;rw[N.eh];simp
 ·unfold od;rw[N.eo];simp
 ·unfold tp;rw[N.et];simp
 ·have:=N.ef
  unfold frO at this
  unfold bs;rw[this];simp
theorem walkR_room {H:Hp} (hn:numB H=true):walkR H.row (frO H) (toO H)=roomW H∧walkR H.row (2*H.half) (2*H.half+H.old)=upW H:=by
 obtain⟨half,old,top,fr,e1,e2,e3,e4,e5,e6,e7,e8,h1,h2,h3,h4⟩:=num_parts hn
 have et:toO H=(fr:Int)+top:=by have:toO H=frO H+H.top:=rfl;rw[this,e4,e3]
 constructor
 ·unfold walkR
  rw[if_pos]
  ·unfold roomW
   rw[e8,e7,et,e4]
   congr 1
  ·simp only[rangeOk,rowOk,Bool.and_eq_true,decide_eq_true_eq]
   rw[et,e4]
   omega
 ·unfold walkR
  rw[if_pos]
  ·unfold upW
   rw[e5,e6,e1,e2]
   congr 1
  ·simp only[rangeOk,rowOk,Bool.and_eq_true,decide_eq_true_eq]
   rw[e1,e2]
   omega
theorem up_room (a:Option Addr) (H:Hp) (r:List Int):((pdsOf a H.row r).any upOnly) = !(r.all (roomOk H)):=by
 unfold pdsOf
 induction r with
 |nil=>rfl
 |cons x r ih=>
  simp only[List.map_cons,List.any_cons,List.all_cons,ih]
  have:upOnly (pdOf a H.row x.toNat) = !(roomOk H x):=by
   show ((uF (H.row.getD x.toNat 0)==6) || uP (H.row.getD x.toNat 0)) = !(!(uF (H.row.getD x.toNat 0)==6) && !(uP (H.row.getD x.toNat 0)))
   cases (uF (H.row.getD x.toNat 0)==6)<;>cases uP (H.row.getD x.toNat 0)<;>rfl
  rw[this]
  cases roomOk H x<;>cases r.all (roomOk H)<;>rfl
theorem all_zero_iff (xs:List Int):xs.all (· == 0)=true↔∀i,i<xs.length→xs.getD i 0=0:=by
 rw[List.all_eq_true]
 constructor
 ·intro h i hi
  have:=h xs[i] (List.getElem_mem hi)
  rw[List.getD_eq_getElem?_getD,List.getElem?_eq_getElem hi]
  simpa using this
 ·intro h x hx
  obtain⟨i,hi,rfl⟩:=List.getElem_of_mem hx
  have:=h i hi
  rw[List.getD_eq_getElem?_getD,List.getElem?_eq_getElem hi]at this
  simpa using this
theorem zeros_same {H:Hp} (hn:numB H=true):zerosO H=zeroB H:=by
 obtain⟨half,old,top,fr,e1,e2,e3,e4,e5,e6,e7,e8,h1,h2,h3,h4⟩:=num_parts hn
 have et:toO H=(fr:Int)+top:=by have:toO H=frO H+H.top:=rfl;rw[this,e4,e3]
 have key:zerosO H=true↔zeroB H=true:=by
  unfold zerosO zeroB
  rw[Bool.and_eq_true,all_zero_iff,all_zero_iff,List.all_eq_true,et,e4,e1,e5]
  have q1:((fr:Int)).toNat=fr:=by omega
  have q2:((fr:Int)+top).toNat=fr+top:=by omega
  have q3:(2*(half:Int)-((fr:Int)+top)).toNat=2*half-(fr+top):=by omega
  rw[q1,q2,q3]
  constructor
  ·rintro⟨a1,a2⟩ i hi
   rw[List.mem_range]at hi
   unfold zeroAt
   rw[e8,e7]
   by_cases c1:i<fr
   ·have:=a1 i (by rw[List.length_take];omega)
    rw[List.getD_eq_getElem?_getD,List.getElem?_take,if_pos c1,←List.getD_eq_getElem?_getD]at this
    rw[this];simp
   ·by_cases c2:fr+top≤i
    ·have:=a2 (i-(fr+top)) (by rw[List.length_take,List.length_drop];omega)
     rw[List.getD_eq_getElem?_getD,List.getElem?_take,if_pos (by omega),List.getElem?_drop,show fr+top+(i-(fr+top))=i by omega,←List.getD_eq_getElem?_getD]at this
     rw[this];simp
    ·simp[c1,c2]
  ·intro h
   have g:∀i,i<2*half→(i<fr∨fr+top≤i)→H.row.getD i 0=0:=by
    intro i hi hc
    have:=h i (List.mem_range.2 hi)
    unfold zeroAt at this
    rw[e8,e7]at this
    simp only[Bool.or_eq_true,Bool.not_eq_true',Bool.or_eq_false_iff,decide_eq_false_iff_not,beq_iff_eq]at this
    rcases this with t|t
    ·omega
    ·exact t
   constructor
   ·intro i hi
    rw[List.length_take]at hi
    rw[List.getD_eq_getElem?_getD,List.getElem?_take,if_pos (by omega),←List.getD_eq_getElem?_getD]
    exact g i (by omega) (by omega)
   ·intro i hi
    rw[List.length_take,List.length_drop]at hi
    rw[List.getD_eq_getElem?_getD,List.getElem?_take,if_pos (by omega),List.getElem?_drop,←List.getD_eq_getElem?_getD]
    exact g _ (by omega) (by omega)
 cases h1:zerosO H<;>cases h2:zeroB H<;>simp_all
theorem room_some {a:Option Addr} {H:Hp} (hn:numB H=true) (hr:roomB a H=true):∃r u,roomW H=some r∧upW H=some u∧placesB H=some (r++u)∧objsP a H=pdsOf a H.row r++keepP (pdsOf a H.row u):=by
 obtain⟨w1,w2⟩:=walkR_room hn
 unfold roomB lowP walkOk walked at hr
 unfold objsP lowP highP walked
 rw[w1,w2,zeros_same hn,up_room]at hr
 rw[w1,w2]
 simp only[Bool.and_eq_true,Bool.not_not]at hr
 obtain⟨⟨⟨a1,a2⟩,a3⟩,a4⟩:=hr
 obtain⟨r,e1⟩:=Option.isSome_iff_exists.1 a1
 obtain⟨u,e2⟩:=Option.isSome_iff_exists.1 a4
 rw[e1]at a2
 refine⟨r,u,e1,e2,placesB_yes a3 e1 e2 a2,?_⟩
 rw[e1,e2];rfl
theorem room_none {a:Option Addr} {H:Hp} (hn:numB H=true) (hr:roomB a H=false):placesB H=none:=by
 obtain⟨w1,w2⟩:=walkR_room hn
 unfold roomB lowP walkOk walked at hr
 rw[w1,w2,zeros_same hn,up_room]at hr
 cases e1:roomW H with
 |none=>exact placesB_room e1
 |some r=>
  cases e2:upW H with
  |none=>exact placesB_up e2
  |some u=>
   cases e3:zeroB H
   ·exact placesB_zero e3
   ·rw[e1,e2,e3]at hr
    refine placesB_no e1 ?_
    simpa using hr
theorem pdOf_pl (a:Option Addr) (xs:List Int) (j:Nat):(pdOf a xs j).pl=j:=rfl
structure Rooms (a:Option Addr) (H:Hp) (ps:List Int) (ds:List Pd):Prop where
 plc:∀p ∈ ps,∃j:Nat,p=j∧j<H.row.length∧chunk H.row j≠0
 ofD:∀d ∈ ds,∃j:Nat,d=pdOf a H.row j∧(j:Int) ∈ ps∧uF (H.row.getD j 0)≠6
 ofP:∀j:Nat,(j:Int) ∈ ps→uF (H.row.getD j 0)≠6→pdOf a H.row j ∈ ds
theorem rooms_of {a:Option Addr} {H:Hp} {ps:List Int} (hn:numB H=true) (hr:roomB a H=true) (h2:placesB H=some ps) (h3:placesR H=some ps):Rooms a H ps (objsP a H):=by
 obtain⟨r,u,e1,e2,e3,e4⟩:=room_some hn hr
 rw[e3]at h2
 cases h2
 have hp:=(places_plc h3).1
 refine⟨hp,fun d hd => ?_,fun j hj h6 => ?_⟩
 ·obtain⟨j,rfl,_,h6⟩:=objs_in hr d hd
  refine⟨j,rfl,?_,h6⟩
  rw[e4]at hd
  rcases List.mem_append.1 hd with hd|hd
  ·obtain⟨x,hx,e⟩:=List.mem_map.1 hd
   obtain⟨k,ek,_⟩:=hp x (List.mem_append.2 (.inl hx))
   have:=congrArg Pd.pl e
   rw[ek]at this hx
   simp only[pdOf_pl,Int.toNat_natCast]at this
   rw[←this]
   exact List.mem_append.2 (.inl hx)
  ·obtain⟨x,hx,e⟩:=List.mem_map.1 (List.mem_filter.1 hd).1
   obtain⟨k,ek,_⟩:=hp x (List.mem_append.2 (.inr hx))
   have:=congrArg Pd.pl e
   rw[ek]at this hx
   simp only[pdOf_pl,Int.toNat_natCast]at this
   rw[←this]
   exact List.mem_append.2 (.inr hx)
 ·rw[e4]
  rcases List.mem_append.1 hj with hj|hj
  ·exact List.mem_append.2 (.inl (List.mem_map.2 ⟨_,hj,by simp⟩))
  ·refine List.mem_append.2 (.inr (List.mem_filter.2 ⟨List.mem_map.2 ⟨_,hj,by simp⟩,?_⟩))
   show (!(uF (H.row.getD j 0)==6))=true
   simpa using h6
section
variable {a:Option Addr} {H:Hp} {ps:List Int} {ds:List Pd}
theorem Rooms.has (h:Rooms a H ps ds) (x:Int):hasP ds x=(decide (x ∈ ps) && !(uF (H.row.getD x.toNat 0)==6)):=by
 have key:hasP ds x=true↔(x ∈ ps∧uF (H.row.getD x.toNat 0)≠6):=by
  unfold hasP
  rw[List.any_eq_true]
  constructor
  ·rintro⟨d,hd,e⟩
   obtain⟨j,rfl,hj,h6⟩:=h.ofD d hd
   have e':(j:Int)=x:=by simpa [pdOf_pl] using e
   subst e'
   exact⟨hj,by simpa using h6⟩
  ·rintro⟨hx,h6⟩
   obtain⟨j,rfl,_,_⟩:=h.plc x hx
   exact⟨_,h.ofP j hx (by simpa using h6),by simp[pdOf_pl]⟩
 cases e:hasP ds x
 ·symm
  rw[Bool.and_eq_false_iff]
  by_cases hx:x ∈ ps
  ·right
   have:¬(uF (H.row.getD x.toNat 0)≠6):=fun h6=>by rw[key.2 ⟨hx,h6⟩]at e;cases e
   simpa using this
  ·left;simpa using hx
 ·obtain⟨a1,a2⟩:=key.1 e
  rw[decide_eq_true a1]
  simpa using a2
theorem Rooms.word (h:Rooms a H ps ds) (x:Int):holdW ds x=wordIn H ps x:=by
 unfold holdW wordIn
 cases e:isA x
 ·simp
 ·have:isW x=true:=by unfold isW;rw[e];simp
  rw[this,h.has];simp
theorem Rooms.list (h:Rooms a H ps ds) (xs:List Int):holdL ds xs=xs.all (wordIn H ps):=by
 unfold holdL
 congr 1
 funext x
 exact h.word x
theorem slP_of (a:Option Addr) (H:Hp) (j:Nat) (h6:uF (H.row.getD j 0)≠6):slP H.row (pdOf a H.row j)=slotsOf H j:=by
 unfold slP slotsOf
 rw[cnP_of,pdOf_pl,Int.toNat_natCast]
 congr 1
 unfold cnS
 by_cases h7:uF (H.row.getD j 0)=7
 ·rw[if_pos h7,if_pos h7];rfl
 ·rw[if_neg h7,if_neg h7,if_neg h6]
theorem slots_free {H:Hp} {p:Int} (h6:uF (H.row.getD p.toNat 0)=6):slotsOf H p=[]:=by
 unfold slotsOf cnS
 rw[if_neg (by omega),if_pos h6];simp
theorem Rooms.slots (h:Rooms a H ps ds):holdS ds (slP H.row)=slotsOk H ps:=by
 have key:holdS ds (slP H.row)=true↔slotsOk H ps=true:=by
  unfold holdS slotsOk
  rw[List.all_eq_true,List.all_eq_true]
  constructor
  ·intro g p hp
   obtain⟨j,rfl,_,_⟩:=h.plc p hp
   by_cases h6:uF (H.row.getD j 0)=6
   ·rw[slots_free (by simpa using h6)];rfl
   ·have:=g _ (h.ofP j hp h6)
    rwa [h.list,slP_of a H j h6]at this
  ·intro g d hd
   obtain⟨j,rfl,hj,h6⟩:=h.ofD d hd
   rw[h.list,slP_of a H j h6]
   exact g _ hj
 cases e1:holdS ds (slP H.row)<;>cases e2:slotsOk H ps<;>simp_all
end
def ntH (H:Hp) (p:Int):Bool:=uF (H.row.getD p.toNat 0)==7
def nxH (H:Hp) (p:Int):Int:=av (H.row.getD (p.toNat+1) 0)
theorem endsL_is (H:Hp):∀(n:Nat) (p:Int),endsL H n p=ends (ntH H) (nxH H) n p
 |0,_=>rfl
 |n+1,p=>by
  unfold endsL ends ntH
  by_cases h:uF (H.row.getD p.toNat 0)=7
  ·rw[if_pos h,if_pos (by simpa using h),endsL_is H n];rfl
  ·rw[if_neg h,if_neg (by simpa using h)]
theorem notes_next {H:Hp} {ps:List Int} (hN:Notes H ps):∀p ∈ ps,ntH H p=true→nxH H p ∈ ps:=fun p hp h=>(hN p hp (by simpa [ntH] using h)).2.2
theorem endsOk_is {H:Hp} {ps:List Int} (hN:Notes H ps):endsOk H ps=true↔∀p ∈ ps,Fins (ntH H) (nxH H) p:=by
 unfold endsOk
 rw[List.all_eq_true]
 constructor
 ·intro h p hp
  have:=h p hp
  rw[endsL_is]at this
  exact⟨_,this⟩
 ·intro h p hp
  rw[endsL_is]
  exact (fins_iff (notes_next hN) hp (by omega)).2 (h p hp)
theorem Rooms.ends {a:Option Addr} {H:Hp} {ps:List Int} {ds:List Pd} (h:Rooms a H ps ds) (hN:Notes H ps):endsOk H ps=true↔∀i,i<ds.length→Fins (ntH H) (nxH H) (ds.getD i pdD).pl:=by
 rw[endsOk_is hN]
 constructor
 ·intro g i hi
  obtain⟨j,e,hj,_⟩:=h.ofD _ (mem_getDP hi)
  rw[e,pdOf_pl]
  exact g _ hj
 ·intro g p hp
  obtain⟨j,rfl,_,_⟩:=h.plc p hp
  by_cases h6:uF (H.row.getD j 0)=6
  ·refine fins_stop ?_
   unfold ntH
   rw[Int.toNat_natCast,h6];rfl
  ·obtain⟨i,hi,e⟩:=List.getElem_of_mem (h.ofP j hp h6)
   have:=g i hi
   rw[List.getD_eq_getElem?_getD,List.getElem?_eq_getElem hi]at this
   simp only[Option.getD_some]at this
   rw[e,pdOf_pl]at this
   exact this
theorem seen_low {up:Int} {sl:Pd→List Int} {ds:List Pd} (h:∀d ∈ ds,d.pl<up):mustL up sl ds=[]:=by
 unfold mustL
 rw[List.map_eq_nil_iff,List.filter_eq_nil_iff]
 intro d hd e
 have:=h d hd
 simp only[mustB,Bool.and_eq_true,decide_eq_true_eq]at e
 omega
theorem mustL_app (up:Int) (sl:Pd→List Int) (ds es:List Pd):mustL up sl (ds++es)=mustL up sl ds++mustL up sl es:=by
 unfold mustL
 rw[List.filter_append,List.map_append]
theorem seen_high (a:Option Addr) (H:Hp):∀u:List Int,(∀p ∈ u,∃j:Nat,p=j∧2*H.half≤(j:Int))→mustL (2*H.half) (slP H.row) (keepP (pdsOf a H.row u))=u.filter (fun p=>(slotsOf H p).any (youngB H))
 | [],_=>rfl
 |p :: u,h=>by
  have ih:=seen_high a H u (fun q hq=>h q (List.mem_cons_of_mem _ hq))
  obtain⟨j,rfl,hj⟩:=h p (List.mem_cons_self ..)
  have e0:pdsOf a H.row ((j:Int) :: u)=pdOf a H.row j :: pdsOf a H.row u:=by unfold pdsOf;simp
  rw[e0]
  by_cases h6:uF (H.row.getD j 0)=6
  ·have e1:keepP (pdOf a H.row j :: pdsOf a H.row u)=keepP (pdsOf a H.row u):=by
     unfold keepP
     rw[List.filter_cons_of_neg]
     show ¬(!(uF (H.row.getD j 0)==6))=true
     rw[h6];decide
   rw[e1,ih,List.filter_cons_of_neg]
   rw[slots_free (by simpa using h6)];simp
  ·have e1:keepP (pdOf a H.row j :: pdsOf a H.row u)=pdOf a H.row j :: keepP (pdsOf a H.row u):=by
     unfold keepP
     rw[List.filter_cons_of_pos]
     show (!(uF (H.row.getD j 0)==6))=true
     simpa using h6
   have e2:mustB (2*H.half) (slP H.row) (pdOf a H.row j)=(slotsOf H j).any (youngB H):=by
    unfold mustB
    rw[pdOf_pl,decide_eq_true hj,Bool.true_and,slP_of a H j h6];rfl
   rw[e1]
   unfold mustL at ih ⊢
   cases e3:(slotsOf H j).any (youngB H)
   ·rw[List.filter_cons_of_neg (by rw[e2,e3];decide),List.filter_cons_of_neg (by rw[e3];decide)];exact ih
   ·rw[List.filter_cons_of_pos (by rw[e2];exact e3),List.filter_cons_of_pos (by exact e3),List.map_cons,ih,pdOf_pl]
theorem seen_same {a:Option Addr} {H:Hp} (hn:numB H=true) (hr:roomB a H=true):mustL (2*H.half) (slP H.row) (objsP a H)=seenL H:=by
 obtain⟨r,u,e1,e2,e3,e4⟩:=room_some hn hr
 obtain⟨half,old,top,fr,q1,q2,q3,q4,q5,q6,q7,q8,h1,h2,h3,h4⟩:=num_parts hn
 have m1:∀p ∈ r,∃j:Nat,p=j∧j<2*half:=fun p hp=>by
  obtain⟨j,e,_,b,_⟩:=walkO_mem (by rw[q8,q7];omega) e1 hp
  rw[q8,q7]at b
  exact⟨j,e,by omega⟩
 have m2:∀p ∈ u,∃j:Nat,p=j∧2*H.half≤(j:Int):=fun p hp=>by
  obtain⟨j,e,b,_,_⟩:=walkO_mem (by rw[q5,q6];omega) e2 hp
  rw[q5]at b
  exact⟨j,e,by rw[q1];omega⟩
 rw[e4,mustL_app,seen_high a H u m2,seen_low,List.nil_append]
 ·unfold seenL;rw[e2];rfl
 ·intro d hd
  obtain⟨p,hp,rfl⟩:=List.mem_map.1 hd
  obtain⟨j,rfl,hj⟩:=m1 p hp
  rw[Int.toNat_natCast,pdOf_pl,q1];omega
def lstB (H:Hp) (ds:List Pd):Bool:=(decide (H.roots.length=6)&&decide (H.mourned.length≤40))&&(H.mourned.all isA&&holdL ds H.roots&&holdL ds H.mourned)
def openB (a:Option Addr) (H:Hp):Bool:=numB H&&(roomB a H&&holdS (objsP a H) (slP H.row)&&endsOk H ((objsP a H).map (·.pl))&&lstB H (objsP a H))
theorem mourn_all (f g:Int→Bool) (xs:List Int):xs.all (fun x=>f x&&g x)=(xs.all f&&xs.all g):=by
 induction xs with
 |nil=>rfl
 |cons x xs ih=>
  simp only[List.all_cons,ih]
  cases f x<;>cases g x<;>cases xs.all f<;>cases xs.all g<;>rfl
theorem rooms_notes {a:Option Addr} {H:Hp} {ps:List Int} {ds:List Pd} (h:Rooms a H ps ds) (hN:Notes H ps) (hs:slotsOk H ps=true):Notes H (ds.map (·.pl)):=by
 intro p hp h7
 obtain⟨d,hd,rfl⟩:=List.mem_map.1 hp
 obtain⟨j,rfl,hj,h6⟩:=h.ofD d hd
 rw[pdOf_pl]at h7 ⊢
 obtain⟨n1,n2,n3⟩:=hN _ hj h7
 refine⟨n1,n2,?_⟩
 rw[Int.toNat_natCast]at n1 n2 n3 h7 ⊢
 have hw:wordIn H ps (H.row.getD (j+1) 0)=true:=by
  unfold slotsOk at hs
  rw[List.all_eq_true]at hs
  have:=hs _ hj
  rw[List.all_eq_true]at this
  refine this _ ?_
  unfold slotsOf cnS
  rw[Int.toNat_natCast,if_pos h7,List.mem_iff_getElem?]
  refine⟨0,?_⟩
  rw[List.getElem?_take,if_pos (by decide),List.getElem?_drop,Nat.add_zero,List.getElem?_eq_getElem n1,List.getD_eq_getElem?_getD,List.getElem?_eq_getElem n1];rfl
 rw[←h.word]at hw
 unfold holdW at hw
 rw[n2,if_pos rfl]at hw
 unfold hasP at hw
 rw[List.any_eq_true]at hw
 obtain⟨d,hd,e⟩:=hw
 exact List.mem_map.2 ⟨d,hd,by simpa using e⟩
theorem openB_is (a:Option Addr) (H:Hp):openB a H=rightB H:=by
 unfold openB
 cases hn:numB H
 ·rw[Bool.false_and]
  unfold rightB placesR
  have:hbad H=true:=by
   cases e:hbad H
   ·have:=(numB_bad H).1 e
    rw[hn]at this;cases this.1
   ·rfl
  rw[if_pos this]
 rw[Bool.true_and]
 cases hr:roomB a H
 ·rw[Bool.false_and,Bool.false_and,Bool.false_and]
  unfold rightB placesR
  rw[room_none hn hr]
  split<;>simp_all
 rw[Bool.true_and]
 obtain⟨r,u,e1,e2,e3,e4⟩:=room_some hn hr
 by_cases hl:H.roots.length=6∧H.mourned.length≤40
 ·have hb:hbad H=false:=(numB_bad H).2 ⟨hn,hl⟩
  have hR:placesR H=some (r++u):=by unfold placesR;rw[if_neg (by rw[hb];decide),e3]
  have RM:=rooms_of hn hr e3 hR
  unfold rightB
  rw[hR]
  simp only
  rw[RM.slots]
  cases hs:slotsOk H (r++u)
  ·rfl
  ·have hN:=notes_of RM.plc hs
   have hE:endsOk H ((objsP a H).map (·.pl))=endsOk H (r++u):=by
    have k1:=RM.ends hN
    have k2:=endsOk_is (rooms_notes RM hN hs)
    have key:endsOk H ((objsP a H).map (·.pl))=true↔endsOk H (r++u)=true:=by
     rw[k1,k2]
     constructor
     ·intro g i hi
      exact g _ (List.mem_map.2 ⟨_,mem_getDP hi,rfl⟩)
     ·intro g p hp
      obtain⟨d,hd,rfl⟩:=List.mem_map.1 hp
      obtain⟨i,hi,rfl⟩:=List.getElem_of_mem hd
      have:=g i hi
      rwa [List.getD_eq_getElem?_getD,List.getElem?_eq_getElem hi]at this
    cases q1:endsOk H ((objsP a H).map (·.pl))
    ·cases q2:endsOk H (r++u)
     ·rfl
     ·rw[key.2 q2]at q1;cases q1
    ·exact (key.1 q1).symm
   rw[hE]
   unfold lstB mournOk
   rw[decide_eq_true hl.1,decide_eq_true hl.2,RM.list,RM.list,mourn_all]
   cases endsOk H (r++u)<;>cases H.mourned.all isA<;>cases H.roots.all (wordIn H (r++u))<;>cases H.mourned.all (wordIn H (r++u))<;>rfl
 ·have hb:hbad H=true:=by
    cases e:hbad H
    ·exact absurd ((numB_bad H).1 e).2 hl
    ·rfl
  have hR:placesR H=none:=by unfold placesR;rw[if_pos hb]
  unfold rightB
  rw[hR]
  have:lstB H (objsP a H)=false:=by
   unfold lstB
   rw[Bool.and_eq_false_iff]
   left
   rw[Bool.and_eq_false_iff]
   by_cases q:H.roots.length=6
   ·right;exact decide_eq_false (fun q2=>hl ⟨q,q2⟩)
   ·left;exact decide_eq_false q
  rw[this,Bool.and_false]
def okB (a:Option Addr) (H:Hp):Bool:=openB a H&&decide (H.seen=mustL (2*H.half) (slP H.row) (objsP a H))
theorem openB_parts {a:Option Addr} {H:Hp} (h:openB a H=true):numB H=true∧roomB a H=true∧holdS (objsP a H) (slP H.row)=true∧endsOk H ((objsP a H).map (·.pl))=true∧lstB H (objsP a H)=true:=by
 unfold openB at h
 simp only[Bool.and_eq_true]at h
 exact⟨h.1,h.2.1.1.1,h.2.1.1.2,h.2.1.2,h.2.2⟩
theorem okB_is (a:Option Addr) (H:Hp):okB a H=heapOk H:=by
 unfold okB heapOk
 cases e:openB a H
 ·rw[←openB_is a H,e];rfl
 ·obtain⟨hn,hr,_⟩:=openB_parts e
  rw[←openB_is a H,e,seen_same hn hr]
end Go.Proofs.YtemlagfaaibenaaGreat.hp
namespace Go.Proofs.YtemlagfaaibenaaGreat.hp
open Go.RowKit rows heads words walks region
set_option maxRecDepth 100000
set_option linter.unusedVariables false
set_option linter.unusedSimpArgs false
theorem right_some {H:Hp} (h:rightB H=true):∃ps,placesR H=some ps:=by
 unfold rightB at h
 cases d:placesR H with
 |none=>rw[d]at h;cases h
 |some ps=>exact⟨ps,rfl⟩
set_option maxHeartbeats 8000000 in
theorem sHeapOk_any {w:World} {vr vo vm vs:Value} {H:Hp} (h:HpAt w vr vo vm vs H) (hs:hpSize H≤1048576) :
    Calls Tryz.prog 25 #[hpv H vr vo vm vs] w fun e w'=>e = .returned (.bool (heapOk H))∧Below w.heap.size w w':=by
 obtain⟨_,_,_,hsl⟩:=hp_parts hs
 obtain⟨a1,c1,a2,c2,a3,c3,a4,c4,e1,e2,e3,e4⟩:=hpAt_slices h
 subst e1 e2 e3 e4
 have B0:Below w.heap.size w (w.alloc (hpb H (.slice a1 H.row.length c1) (.slice a2 H.roots.length c2) (.slice a3 H.mourned.length c3) (.slice a4 H.seen.length c4))):=(Below.refl _ _).alloc (Nat.le_refl _) _
 have T0:=nine_new w H (.slice a1 H.row.length c1) (.slice a2 H.roots.length c2) (.slice a3 H.mourned.length c3) (.slice a4 H.seen.length c4)
 have HT0:Hid _:=T0
 have HB0:Hid _:=B0
 have HH0:Hid (HpAt _ (.slice a1 H.row.length c1) (.slice a2 H.roots.length c2) (.slice a3 H.mourned.length c3) (.slice a4 H.seen.length c4) H):=hpAt_below h B0
 cases dr:rightB H
 ·have e:heapOk H=false:=by unfold heapOk;rw[dr];rfl
  rw[e]
  obtain⟨⟨z0,z1,z2,z3,z4⟩,⟨z5,z6,z7,z8⟩⟩:=nine_grow T0
  have HWD:Hid (∀x:Ext (w.alloc (hpb H (.slice a1 H.row.length c1) (.slice a2 H.roots.length c2) (.slice a3 H.mourned.length c3) (.slice a4 H.seen.length c4))).heap.size (w.alloc (hpb H (.slice a1 H.row.length c1) (.slice a2 H.roots.length c2) (.slice a3 H.mourned.length c3) (.slice a4 H.seen.length c4))),Calls Tryz.prog 48 #[hpv H (.slice a1 H.row.length c1) (.slice a2 H.roots.length c2) (.slice a3 H.mourned.length c3) (.slice a4 H.seen.length c4)] x.to fun e w''=>e = .returned (.bool false)∧∃y:Ext (w.alloc (hpb H (.slice a1 H.row.length c1) (.slice a2 H.roots.length c2) (.slice a3 H.mourned.length c3) (.slice a4 H.seen.length c4))).heap.size (w.alloc (hpb H (.slice a1 H.row.length c1) (.slice a2 H.roots.length c2) (.slice a3 H.mourned.length c3) (.slice a4 H.seen.length c4))),w''=y.to):=fun x=>calls_grow (Nat.le_refl _) (dr▸l9Right_any (hpAt_below HH0.out x.below))
  clear B0 T0 h e dr
  go_enter Tryz.func25,Tryz.ntmps25
  go_upto_region 1 with fail
  generalize (w.alloc (hpb H (.slice a1 H.row.length c1) (.slice a2 H.roots.length c2) (.slice a3 H.mourned.length c3) (.slice a4 H.seen.length c4)))=X at *
  haveI:=ext_any X
  refine region_grow (n:=X.heap.size) (by kernel_rfl) (by kernel_rfl) ?_
  repeat (go_big_quiet_step ((go_at_call 48;exact HWD.out _)))
  refine wpQuiet_nil ?_
  intro _ hw'
  obtain⟨x,rfl⟩:=hw'
  have HBE:Hid _:=HB0.out.trans (x.below.mono HB0.out.size)
  clear z0 z1 z2 z3 z4 z5 z6 z7 z8 HWD
  generalize x.to=W at *
  clear x this
  go_wp2
  go_ret
  exact⟨rfl,HBE.out⟩
 ·have e:heapOk H=decide (H.seen=seenL H):=by unfold heapOk;rw[dr];rfl
  rw[e]
  obtain⟨ps,hps⟩:=right_some dr
  obtain⟨N,_,r,u,_,hu,_,_⟩:=places_facts hps
  have HR9:Hid (∀W,Below (w.alloc (hpb H (.slice a1 H.row.length c1) (.slice a2 H.roots.length c2) (.slice a3 H.mourned.length c3) (.slice a4 H.seen.length c4))).heap.size (w.alloc (hpb H (.slice a1 H.row.length c1) (.slice a2 H.roots.length c2) (.slice a3 H.mourned.length c3) (.slice a4 H.seen.length c4))) W→Calls Tryz.prog 48 #[hpv H (.slice a1 H.row.length c1) (.slice a2 H.roots.length c2) (.slice a3 H.mourned.length c3) (.slice a4 H.seen.length c4)] W fun e w'=>e = .returned (.bool true)∧Below W.heap.size W w'):=fun W hW=>dr▸l9Right_any (hpAt_below HH0.out hW)
  have HS9:Hid (∀W,Below (w.alloc (hpb H (.slice a1 H.row.length c1) (.slice a2 H.roots.length c2) (.slice a3 H.mourned.length c3) (.slice a4 H.seen.length c4))).heap.size (w.alloc (hpb H (.slice a1 H.row.length c1) (.slice a2 H.roots.length c2) (.slice a3 H.mourned.length c3) (.slice a4 H.seen.length c4))) W→Calls Tryz.prog 50 #[hpv H (.slice a1 H.row.length c1) (.slice a2 H.roots.length c2) (.slice a3 H.mourned.length c3) (.slice a4 H.seen.length c4)] W fun e w'=>∃v',e = .returned v'∧rows.Own w' W.heap.size v' (seenL H)∧Below W.heap.size W w'):=fun W hW=>l9Seen_any (hpAt_below HH0.out hW) N hu
  generalize seenL H=S at *
  clear B0 h e dr hps N hu
  go_enter Tryz.func25,Tryz.ntmps25
  go_upto_region 1 with fail
  generalize (w.alloc (hpb H (.slice a1 H.row.length c1) (.slice a2 H.roots.length c2) (.slice a3 H.mourned.length c3) (.slice a4 H.seen.length c4)))=X at *
  obtain⟨⟨z0,z1,z2,z3,z4⟩,⟨z5,z6,z7,z8⟩,_⟩:=nine_cells T0
  clear T0
  go_region_law (first
   |(have hh:=HR9;clear hh;go_simp;go_at_call 48;refine (HR9.out _ (Below.refl _ _).drew).mono ?_;clear HR9;rintro e w2 ⟨rfl,b2⟩;have b2':Below X.heap.size X w2:=⟨b2.os,b2.tape,b2.output,b2.size,b2.block⟩;have HB2:Hid _:=b2';clear b2 b2' z0 z1 z2 z3 z4 z5 z6 z7 z8;obtain⟨⟨z0,z1,z2,z3,z4⟩,⟨z5,z6,z7,z8⟩,_⟩:=nine_cells (nine_below HT0.out HB2.out))
   |(have hh:=HS9;clear hh;go_simp;go_at_call 50;refine (HS9.out _ HB2.out).mono ?_;clear HS9;rintro e w3 ⟨v3,rfl,O3,b3⟩;have HB3:Hid (Below X.heap.size X w3):=HB2.out.trans (b3.mono HB2.out.size);have HSM:Hid _:=l1Same_any (intsAt_below HH0.out.2.2.2 HB3.out) (own_ints O3) hsl;obtain⟨sa,sn,sc,rfl⟩:=ints_slice (own_ints O3);clear O3 b3 z0 z1 z2 z3 z4 z5 z6 z7 z8;obtain⟨⟨z0,z1,z2,z3,z4⟩,⟨z5,z6,z7,z8⟩,_⟩:=nine_cells (nine_below HT0.out HB3.out))
   |(have hh:=HSM;clear hh;go_simp;go_at_call 49;refine Calls.mono HSM.out ?_;clear HSM;rintro e w4 ⟨rfl,q4⟩;have HB4:Hid (Below w.heap.size w w4):=(HB0.out.trans (HB3.out.mono HB0.out.size)).trans ((bel_of_drewN q4).mono (HB0.out.trans (HB3.out.mono HB0.out.size)).size);clear q4))
  all_goals (go_wp2)
  all_goals go_ret
  all_goals exact⟨rfl,HB4.out⟩
end Go.Proofs.YtemlagfaaibenaaGreat.hp
