/-
  Chapter 9 as the program has it: what stands in a heap's row.
  Made from the template HeapI8.
-/
import Derived.Test.YtkiognecebgaiaaGreatDoorM12
import Derived.Test.YtkiognecebgaiaaGreatDoorM9
import Derived.Test.YtkiognecebgaiaaGreatDoorHeapI5
import Derived.Test.YtkiognecebgaiaaGreatDoorM11
namespace Go.Proofs.YtkiognecebgaiaaGreatDoor.hp
open Go.RowKit rows heads words walks
set_option maxRecDepth 100000
set_option linter.unusedVariables false
set_option linter.unusedSimpArgs false
def frO (H:Hp):Int:=H.side*H.half
def toO (H:Hp):Int:=H.side*H.half+H.top
def lowP (a:Option Addr) (H:Hp):List Pd:=pdsOf a H.row (walked H.row (frO H) (toO H))
def highP (a:Option Addr) (H:Hp):List Pd:=pdsOf a H.row (walked H.row (2*H.half) (2*H.half+H.old))
def zerosO (H:Hp):Bool:=(H.row.take (frO H).toNat).all (· == 0)&&((H.row.drop (toO H).toNat).take (2*H.half-toO H).toNat).all (· == 0)
def roomB (a:Option Addr) (H:Hp):Bool:=(walkOk H.row (frO H) (toO H) && !((lowP a H).any upOnly))&&zerosO H&&walkOk H.row (2*H.half) (2*H.half+H.old)
def objsP (a:Option Addr) (H:Hp):List Pd:=lowP a H++keepP (highP a H)
structure NumN (H:Hp) where
 half:Nat
 old:Nat
 top:Nat
 fr:Nat
 eh:H.half=half
 eo:H.old=old
 et:H.top=top
 ef:frO H=fr
 lh:8≤half
 lo:8≤old
 bh:half≤200
 bo:old≤400
 lt:fr+top≤2*half
 ln:H.row.length=2*half+old
theorem numN {H:Hp} (h:numB H=true):Nonempty (NumN H):=by
 unfold numB sideB at h
 simp only[Bool.and_eq_true,Bool.or_eq_true,beq_iff_eq,decide_eq_true_eq]at h
 obtain⟨⟨⟨⟨h1,h2⟩,h3⟩,⟨h4,h5,h6⟩⟩,_⟩:=h
 have q1:=evn_true h1
 have q2:=evn_true h2
 obtain⟨n1,e1⟩:=Int.eq_ofNat_of_zero_le (show 0≤H.half by omega)
 obtain⟨n2,e2⟩:=Int.eq_ofNat_of_zero_le (show 0≤H.old by omega)
 obtain⟨n3,e3⟩:=Int.eq_ofNat_of_zero_le h5
 rcases h4 with h4|h4
 ·exact⟨⟨n1,n2,n3,0,e1,e2,e3,by unfold frO;rw[h4];simp,by omega,by omega,by omega,by omega,by omega,by omega⟩⟩
 ·exact⟨⟨n1,n2,n3,n1,e1,e2,e3,by unfold frO;rw[h4,e1];simp,by omega,by omega,by omega,by omega,by omega,by omega⟩⟩
abbrev rmb (x:Int) (v:Value):Obj:=.cells #[.int .i64 x,v] 153
theorem rmb_cells {W:World} {b:Nat} {x:Int} {v:Value} (h:W.heap[b]? = some (rmb x v)):(W.cell? ⟨b,0,none⟩=some (.int .i64 x)∧W.cell? ⟨b,1,none⟩=some v)∧W.frozen? ⟨b,0,none⟩=false∧W.frozen? ⟨b,1,none⟩=false:=by
 refine⟨⟨?_,?_⟩,?_,?_⟩<;>simp[World.cell?, World.frozen?, h]
theorem rmb_set {W:World} {b:Nat} {x:Int} {v:Value} (h:W.heap[b]? = some (rmb x v)) (y:Int) (u:Value):((W.setCell ⟨b,0,none⟩ (.int .i64 y)).setCell ⟨b,1,none⟩ u).heap[b]? = some (rmb y u):=(cells_setCell (cells_setCell h 0 (.int .i64 y)) 1 u).trans (by simp)
theorem rmb_below {n:Nat} {w X:World} {b:Nat} (hB:Below n w X) (hb:n≤b) (u v:Value):Below n w ((X.setCell ⟨b,0,none⟩ u).setCell ⟨b,1,none⟩ v):=(hB.setCell (p:=⟨b,0,none⟩) hb u).setCell (p:=⟨b,1,none⟩) hb v
theorem res_rm {fn:Func} {tmps:Array Value} {X:World} {j i b:Nat} {x:Int} {a:Option Addr} {n c:Nat} {bb:Bool} (hf:fn.results=#[.cell j 153,.tmp i]) (h2:tmps[j]? = some (.pointer (some ⟨b,0,none⟩))) (hi:tmps[i]? = some (.bool bb)) (hX:X.heap[b]? = some (rmb x (.slice a n c))) :
    (results fn tmps).run Tryz.prog X = .ok (.tuple #[.agg #[.int .i64 x,.slice a n c],.bool bb]) X:=by
 obtain⟨⟨k0,k1⟩,_⟩:=rmb_cells hX
 clear hX
 simp[results,hf,h2,hi,go_sem,k0,k1]
theorem ints_part {w:World} {b off n cap:Nat} {xs:List Int} (h:IntsAt w (.slice (some ⟨b,off,none⟩) n cap) xs) (k m:Nat) (hk:k+m≤xs.length):IntsAt w (.slice (some ⟨b,off+k,none⟩) m (cap-k)) ((xs.drop k).take m):=by
 obtain⟨a',cap',e,hlc,hcm,_,hc⟩:=h
 injection e with e1 e2 e3
 subst e1 e3
 have el:((xs.drop k).take m).length=m:=by rw[List.length_take,List.length_drop];omega
 refine⟨_,_,by rw[el],by rw[el];omega,by omega,fun h=>by simp at h,fun hp => ?_⟩
 rw[el]at hp
 obtain⟨b',off',e,hb,hcc⟩:=hc (by omega)
 injection e with e
 injection e with e1 e2
 subst e1 e2
 refine⟨_,_,rfl,hb,fun i hi => ?_⟩
 rw[el]at hi
 have:=hcc (k+i) (by omega)
 rw[show off+k+i=off+(k+i) by omega,this]
 congr 2
 simp only[List.getD_eq_getElem?_getD]
 rw[List.getElem?_take,if_pos hi,List.getElem?_drop]
def Rm (w:World) (V:World) (hf old tp:Nat) (sd:Int) (a1:Option Addr) (c1:Nat) (row:List Int):Prop:=
 (V.cell? ⟨w.heap.size,0,none⟩=some (.int .i64 hf)∧V.cell? ⟨w.heap.size,1,none⟩=some (.int .i64 old)∧V.cell? ⟨w.heap.size,2,none⟩=some (.slice a1 row.length c1)∧V.cell? ⟨w.heap.size,3,none⟩=some (.int .i64 sd)∧V.cell? ⟨w.heap.size,4,none⟩=some (.int .i64 tp)) ∧
 V.heap[w.heap.size+1]? = some (rmb 0 (.slice none 0 0))∧IntsAt V (.slice a1 row.length c1) row∧Below w.heap.size w V∧w.heap.size+2≤V.heap.size
set_option maxHeartbeats 8000000 in
theorem roomsOf_any {w:World} {a1 a2 a3 a4:Option Addr} {c1 c2 c3 c4:Nat} {H:Hp} (h:HpAt w (.slice a1 H.row.length c1) (.slice a2 H.roots.length c2) (.slice a3 H.mourned.length c3) (.slice a4 H.seen.length c4) H) (hn:numB H=true) (ha:AllI H.row) :
    Calls Tryz.prog 151 #[hpv H (.slice a1 H.row.length c1) (.slice a2 H.roots.length c2) (.slice a3 H.mourned.length c3) (.slice a4 H.seen.length c4)] w fun e w'=>(roomB a1 H=false→e = .returned (.tuple #[.agg #[.int .i64 0,.slice none 0 0],.bool false]))∧(roomB a1 H=true→∃v',e = .returned (.tuple #[.agg #[.int .i64 (2*H.half),v'],.bool true])∧OwnP w' w.heap.size v' (objsP a1 H))∧Below w.heap.size w w':=by
 obtain⟨N⟩:=numN hn
 clear hn
 obtain⟨hf,old,tp,fr,eh,eo,et,ef,lh,lo,bh,bo,lt,ln⟩:=N
 obtain⟨Hh,Ho,row,sd,Ht,ro,mo,se,sd'⟩:=H
 dsimp only at eh eo et ef ln h ha ⊢
 subst eh eo et
 obtain⟨L1,hL1⟩:∃L,lowP a1 ⟨hf,old,row,sd,tp,ro,mo,se,sd'⟩=L:=⟨_,rfl⟩
 obtain⟨L2,hL2⟩:∃L,highP a1 ⟨hf,old,row,sd,tp,ro,mo,se,sd'⟩=L:=⟨_,rfl⟩
 have ef':sd*(hf:Int)=fr:=ef
 obtain⟨P1,hP1⟩:∃P,walkOk row (fr:Int) ((fr:Int)+tp)=P:=⟨_,rfl⟩
 obtain⟨P5,hP5⟩:∃P,walkOk row (2*(hf:Int)) (2*(hf:Int)+old)=P:=⟨_,rfl⟩
 obtain⟨P3,hP3⟩:∃P,(row.take fr).all (· == 0)=P:=⟨_,rfl⟩
 obtain⟨P4,hP4⟩:∃P,((row.drop (fr+tp)).take (2*hf-(fr+tp))).all (· == 0)=P:=⟨_,rfl⟩
 have HRB:Hid (roomB a1 ⟨hf,old,row,sd,tp,ro,mo,se,sd'⟩=((P1 && !(L1.any upOnly))&&(P3&&P4)&&P5)):=by
  show roomB _ _=_
  unfold roomB zerosO
  have e1:(frO ⟨hf,old,row,sd,tp,ro,mo,se,sd'⟩).toNat=fr:=by rw[ef];omega
  have e2:toO ⟨hf,old,row,sd,tp,ro,mo,se,sd'⟩=(fr:Int)+tp:=by unfold toO;rw[ef']
  have e3:((fr:Int)+tp).toNat=fr+tp:=by omega
  have e4:(2*(hf:Int)-((fr:Int)+tp)).toNat=2*hf-(fr+tp):=by omega
  rw[hL1,e1,e2]
  dsimp only
  rw[e3,e4,ef,hP1,hP3,hP4,hP5]
 have HOB:Hid (objsP a1 ⟨hf,old,row,sd,tp,ro,mo,se,sd'⟩=L1++keepP L2):=by
  show objsP _ _=_
  unfold objsP
  rw[hL1,hL2]
 have HL1:Hid (pdsOf a1 row (walked row fr (fr+tp))=L1):=by
  show _=_
  rw[←hL1];unfold lowP toO;rw[ef,ef']
 have HL2:Hid (pdsOf a1 row (walked row (2*(hf:Int)) (2*(hf:Int)+old))=L2):=hL2
 have HLN:Hid _:=ln
 have b1:2*hf≤row.length:=by omega
 have b2:row.length≤1000:=by omega
 have HA:Hid _:=ha
 have HALL:Hid (∀V,Below ((w.alloc (hpb ⟨hf,old,row,sd,tp,ro,mo,se,sd'⟩ (.slice a1 row.length c1) (.slice a2 ro.length c2) (.slice a3 mo.length c3) (.slice a4 se.length c4))).alloc (rmb 0 (.slice none 0 0))).heap.size ((w.alloc (hpb ⟨hf,old,row,sd,tp,ro,mo,se,sd'⟩ (.slice a1 row.length c1) (.slice a2 ro.length c2) (.slice a3 mo.length c3) (.slice a4 se.length c4))).alloc (rmb 0 (.slice none 0 0))) V→Rm w V hf old tp sd a1 c1 row):=by
  intro V hV
  have B0:Below w.heap.size w (w.alloc (hpb ⟨hf,old,row,sd,tp,ro,mo,se,sd'⟩ (.slice a1 row.length c1) (.slice a2 ro.length c2) (.slice a3 mo.length c3) (.slice a4 se.length c4))):=(Below.refl _ _).alloc (Nat.le_refl _) _
  have B1:=B0.alloc B0.size (rmb 0 (.slice none 0 0))
  have T0:=nine_new w ⟨hf,old,row,sd,tp,ro,mo,se,sd'⟩ (.slice a1 row.length c1) (.slice a2 ro.length c2) (.slice a3 mo.length c3) (.slice a4 se.length c4)
  have T1:=heap_alloc_new (w.alloc (hpb ⟨hf,old,row,sd,tp,ro,mo,se,sd'⟩ (.slice a1 row.length c1) (.slice a2 ro.length c2) (.slice a3 mo.length c3) (.slice a4 se.length c4))) (rmb 0 (.slice none 0 0))
  have T2:Below (w.heap.size+1) (w.alloc (hpb ⟨hf,old,row,sd,tp,ro,mo,se,sd'⟩ (.slice a1 row.length c1) (.slice a2 ro.length c2) (.slice a3 mo.length c3) (.slice a4 se.length c4))) V:=((Below.refl _ _).alloc (by simp) _).trans (hV.mono (by simp))
  have hs:=hV.size
  have q0:V.heap[w.heap.size]? = _:=(T2.block _ (by omega)).trans T0
  have q1:V.heap[w.heap.size+1]? = some (rmb 0 (.slice none 0 0)):=(hV.block (w.heap.size+1) (by simp)).trans ((congrArg (fun k=>((w.alloc (hpb ⟨hf,old,row,sd,tp,ro,mo,se,sd'⟩ (.slice a1 row.length c1) (.slice a2 ro.length c2) (.slice a3 mo.length c3) (.slice a4 se.length c4))).alloc (rmb 0 (.slice none 0 0))).heap[k]?) (show w.heap.size+1=(w.alloc (hpb ⟨hf,old,row,sd,tp,ro,mo,se,sd'⟩ (.slice a1 row.length c1) (.slice a2 ro.length c2) (.slice a3 mo.length c3) (.slice a4 se.length c4))).heap.size by simp)).trans T1)
  obtain⟨⟨z0,z1,z2,z3,z4⟩,_,_⟩:=nine_cells (show Nine V w.heap.size _ _ _ _ _ _ _ _ _ _ from q0)
  exact⟨⟨z0,z1,z2,z3,z4⟩,q1,intsAt_below h.1 (B1.trans (hV.mono B1.size)),B1.trans (hV.mono B1.size),by simpa using hs⟩
 clear hL1 hL2 ln ha ef h
 have PI1:Hid (∀V,IntsAt V (.slice a1 row.length c1) row→Calls Tryz.prog 172 #[.slice a1 row.length c1,.int .i64 (fr:Int),.int .i64 ((fr:Int)+tp)] V fun e w'=>∃v',e = .returned (.tuple #[v',.bool P1])∧OwnP w' V.heap.size v' L1∧Below V.heap.size V w'):=fun V hV=>by
  have:=placedIn_any hV (by omega) HA.out (fr:Int) ((fr:Int)+tp) ⟨by omega,by omega⟩ ⟨by omega,by omega⟩
  rw[HL1.out,hP1]at this
  exact this
 have PI2:Hid (∀V,IntsAt V (.slice a1 row.length c1) row→Calls Tryz.prog 172 #[.slice a1 row.length c1,.int .i64 (2*(hf:Int)),.int .i64 (2*(hf:Int)+old)] V fun e w'=>∃v',e = .returned (.tuple #[v',.bool P5])∧OwnP w' V.heap.size v' L2∧Below V.heap.size V w'):=fun V hV=>by
  have:=placedIn_any hV (by omega) HA.out (2*(hf:Int)) (2*(hf:Int)+old) ⟨by omega,by omega⟩ ⟨by omega,by omega⟩
  rw[HL2.out,hP5]at this
  exact this
 clear hP1 hP5
 go_enter Tryz.func151,Tryz.ntmps151
 go_upto_region 1 with fail
 generalize (w.alloc _).alloc _=X at *
 obtain⟨⟨z0,z1,z2,z3,z4⟩,_,_,_,sX⟩:=HALL.out X (Below.refl _ _)
 go_quiet (fail)
 have HD1:Hid (Below X.heap.size X (X.drewN nq)):=bel_of_drewN ⟨_,rfl⟩
 clear z0 z1 z2 z3 z4
 generalize X.drewN nq=X1 at *
 obtain⟨⟨z0,z1,z2,z3,z4⟩,_,i1,_,s1⟩:=HALL.out X1 HD1.out
 have C1:=PI1.out X1 i1
 clear i1 PI1
 go_wp2_with fail
 refine C1.mono ?_
 clear C1
 rintro e w3 ⟨v3,rfl,O3,b3⟩
 have HD3:Hid (Below X.heap.size X w3):=HD1.out.trans (b3.mono HD1.out.size)
 have HO3:Hid _:=O3
 have HB3:Hid _:=b3
 have P3s:SlicesP L1:=HL1.out▸pdsOf_slices _ _ _
 have l1:L1.length≤1000:=by rw[←HL1.out];unfold pdsOf;rw[List.length_map];exact (walked_length _ _ _).1
 obtain⟨a5,c5,rfl⟩:=pds_slice (ownP_at O3)
 have CU:=containsUp_any (ownP_at O3) P3s (by omega)
 obtain⟨PU,hPU⟩:∃P,L1.any upOnly=P:=⟨_,rfl⟩
 rw[hPU]at CU
 have HPU:Hid _:=hPU
 have HP3s:Hid _:=P3s
 clear O3 b3 P3s hPU z0 z1 z2 z3 z4
 obtain⟨⟨z0,z1,z2,z3,z4⟩,rr,i3,bw,s1⟩:=HALL.out w3 HD3.out
 obtain⟨⟨r0,r1⟩,f0,f1⟩:=rmb_cells rr
 have HRR:Hid _:=rr
 have HBW:Hid _:=bw
 have HI3:Hid _:=i3
 clear bw rr i3
 cases P1
 ·have HF:Hid (roomB a1 ⟨hf,old,row,sd,tp,ro,mo,se,sd'⟩=false):=by show _=_;rw[HRB.out];simp
  clear CU HRB HOB
  go_wp2_with fail
  exact bodyPost_ret (res_rm rfl rfl rfl (rmb_set HRR.out 0 (.slice none 0 0))) rfl ⟨fun _=>rfl,fun e=>absurd (HF.out.symm.trans e) (by decide),rmb_below HBW.out (by omega) _ _⟩
 cases PU
 rotate_left
 ·have HF:Hid (roomB a1 ⟨hf,old,row,sd,tp,ro,mo,se,sd'⟩=false):=by show _=_;rw[HRB.out,HPU.out];simp
  clear HRB HOB z0 z1 z2 z3 z4 r0 r1 f0 f1
  go_wp2_with (go_at_call 173;refine CU.mono ?_;clear CU;rintro e w4 ⟨rfl,b4⟩;obtain⟨_,rr,_,bw,s4⟩:=HALL.out w4 (HD3.out.trans (b4.mono HD3.out.size));obtain⟨⟨r0,r1⟩,f0,f1⟩:=rmb_cells rr;have HR4:Hid _:=rr;have HB4:Hid _:=bw;clear rr bw b4)
  exact bodyPost_ret (res_rm rfl rfl rfl (rmb_set HR4.out 0 (.slice none 0 0))) rfl ⟨fun _=>rfl,fun e=>absurd (HF.out.symm.trans e) (by decide),rmb_below HB4.out (by omega) _ _⟩
 clear z0 z1 z2 z3 z4 r0 r1 f0 f1
 go_upto_region 6 with (go_at_call 173;refine CU.mono ?_;clear CU;rintro e w4 ⟨rfl,b4⟩;have HD4:Hid (Below X.heap.size X w4):=(HD3.out.trans (b4.mono HD3.out.size));have HB34:Hid _:=b4;clear b4)
 obtain⟨⟨z0,z1,z2,z3,z4⟩,rr,i4,bw,s4⟩:=HALL.out w4 HD4.out
 obtain⟨⟨r0,r1⟩,f0,f1⟩:=rmb_cells rr
 have HR4:Hid _:=rr
 have HB4:Hid _:=bw
 have HI4:Hid _:=i4
 clear rr bw i4
 obtain⟨a1',c1',ea,hc1,hc2,_,hcc⟩:=HI4.out
 injection ea with ea1 _ ea3
 subst ea1 ea3
 obtain⟨b,off,rfl,hbl,_⟩:=hcc (by omega)
 clear hcc
 have AZ1:=allZero_any (w:=w4) (v:=.slice (some ⟨b,off,none⟩) fr c1) (xs:=row.take fr) (by have:=ints_part HI4.out 0 fr (by omega);simpa using this) (by rw[List.length_take];omega)
 rw[hP3]at AZ1
 clear hP3
 cases P3
 ·have HF:Hid (roomB (some ⟨b,off,none⟩) ⟨hf,old,row,sd,tp,ro,mo,se,sd'⟩=false):=by show _=_;rw[HRB.out];simp
  clear HRB HOB
  go_wp2_with (go_at_call 175;refine AZ1.mono ?_;clear AZ1;rintro e w5 ⟨rfl,hw5⟩;rw[hw5];clear hw5 w5)
  exact bodyPost_ret (res_rm rfl rfl rfl (rmb_set HR4.out 0 (.slice none 0 0))) rfl ⟨fun _=>rfl,fun e=>absurd (HF.out.symm.trans e) (by decide),rmb_below HB4.out (by omega) _ _⟩
 have hq0:2*hf<c1:=by have:=HLN.out;omega
 have hq1:¬c1=fr+tp:=by omega
 have hq2:¬fr+tp=c1:=by omega
 have hq3:¬c1-(fr+tp)=0:=by omega
 have AZ2:=allZero_any (w:=w4) (v:=.slice (some ⟨b,off+(fr+tp),none⟩) (2*hf-(fr+tp)) (c1-(fr+tp))) (xs:=(row.drop (fr+tp)).take (2*hf-(fr+tp))) (ints_part HI4.out (fr+tp) _ (by omega)) (by rw[List.length_take,List.length_drop];omega)
 rw[hP4]at AZ2
 clear hP4
 cases P4
 ·have HF:Hid (roomB (some ⟨b,off,none⟩) ⟨hf,old,row,sd,tp,ro,mo,se,sd'⟩=false):=by show _=_;rw[HRB.out];simp
  clear HRB HOB
  go_wp2_with (first|(go_at_call 175;refine AZ1.mono ?_;clear AZ1;rintro e w5 ⟨rfl,hw5⟩;rw[hw5];clear hw5 w5)|(go_at_call 175;refine AZ2.mono ?_;clear AZ2;rintro e w6 ⟨rfl,hw6⟩;rw[hw6];clear hw6 w6))
  exact bodyPost_ret (res_rm rfl rfl rfl (rmb_set HR4.out 0 (.slice none 0 0))) rfl ⟨fun _=>rfl,fun e=>absurd (HF.out.symm.trans e) (by decide),rmb_below HB4.out (by omega) _ _⟩
 go_upto_region 8 with (first|(go_at_call 175;refine AZ1.mono ?_;clear AZ1;rintro e w5 ⟨rfl,hw5⟩;rw[hw5];clear hw5 w5)|(go_at_call 175;refine AZ2.mono ?_;clear AZ2;rintro e w6 ⟨rfl,hw6⟩;rw[hw6];clear hw6 w6))
 have RL:Hid (∀V,Calls Tryz.prog 170 #[.int .i64 hf,.int .i64 old] V fun e w'=>e = .returned (.int .i64 (2*(hf:Int)+old))∧w'=V):=fun V=>rowLength_int ⟨by omega,by omega⟩ ⟨by omega,by omega⟩ V
 clear hq0 hq1 hq2 hq3
 go_cut [8,9] from 53 to 64 (fun v8 v9 wr=>v8 = .bool P5∧∃va vc,v9 = .slice va L2.length vc∧Hid (OwnP wr w4.heap.size (.slice va L2.length vc) L2)∧Hid (Below w4.heap.size w4 wr))
 case first=>
  have HG:Hid (∀(V:World) (v':Value) (w':World),OwnP w' V.heap.size v' L2→Below V.heap.size V w'→Below w4.heap.size w4 V→∃va vc,v' = .slice va L2.length vc∧Hid (OwnP w' w4.heap.size (.slice va L2.length vc) L2)∧Hid (Below w4.heap.size w4 w')):=by
   intro V v' w' h1 h2 hV
   obtain⟨va,vc,rfl⟩:=pds_slice (ownP_at h1)
   exact⟨va,vc,rfl,ownP_base h1 hV.size,hV.trans (h2.mono hV.size)⟩
  go_region_law (first|(go_simp;go_at_call 170;refine Calls.mono (RL.out _) ?_;rintro e w7 ⟨rfl,hw7⟩;rw[hw7];clear hw7 w7 RL)|(go_simp;go_at_call 172;refine Calls.mono (PI2.out _ (intsAt_below HI4.out ⟨rfl,rfl,rfl,Nat.le_refl _,fun _ _=>rfl⟩)) ?_;rintro e w8 ⟨v8,rfl,O8,b8⟩;obtain⟨va,vc,rfl,O9,b9⟩:=HG.out _ _ _ O8 b8 ⟨rfl,rfl,rfl,Nat.le_refl _,fun _ _=>rfl⟩;clear O8 b8 HG PI2))
  all_goals go_wp2_with fail
  all_goals (go_meet;exact⟨rfl,va,vc,rfl,O9,b9⟩)
 obtain⟨rfl,va,vc,rfl,O9,b9⟩:=hcut
 have HD9:Hid (Below X.heap.size X wc):=HD4.out.trans (b9.out.mono HD4.out.size)
 clear z0 z1 z2 z3 z4 r0 r1 f0 f1 RL PI2
 have s49:=b9.out.size
 have sX4:=HD4.out.size
 cases P5
 ·have HF:Hid (roomB (some ⟨b,off,none⟩) ⟨hf,old,row,sd,tp,ro,mo,se,sd'⟩=false):=by show _=_;rw[HRB.out];simp
  obtain⟨_,rr,_,bw,s9⟩:=HALL.out wc HD9.out
  obtain⟨⟨r0,r1⟩,f0,f1⟩:=rmb_cells rr
  have HR9:Hid _:=rr
  have HB9:Hid _:=bw
  clear HRB HOB rr bw
  go_wp2_with fail
  exact bodyPost_ret (res_rm rfl rfl rfl (rmb_set HR9.out 0 (.slice none 0 0))) rfl ⟨fun _=>rfl,fun e=>absurd (HF.out.symm.trans e) (by decide),rmb_below HB9.out (by omega) _ _⟩
 have HT:Hid (roomB (some ⟨b,off,none⟩) ⟨hf,old,row,sd,tp,ro,mo,se,sd'⟩=true):=by show _=_;rw[HRB.out,HPU.out];rfl
 have P9s:SlicesP L2:=HL2.out▸pdsOf_slices _ _ _
 have l2:L2.length≤1000:=by rw[←HL2.out];unfold pdsOf;rw[List.length_map];exact (walked_length _ _ _).1
 have DF:=deleteFree_any (base:=w4.heap.size) O9.out P9s l2 s49
 have HB9w:Hid (Below w4.heap.size w4 wc):=b9.out
 have HO9:Hid _:=O9.out
 have HKP:Hid (SlicesP (keepP L2)):=fun d hd=>P9s d (List.mem_filter.1 hd).1
 have lk:(keepP L2).length≤1000:=Nat.le_trans (List.length_filter_le _ _) l2
 clear O9 b9 P9s l2
 go_wp2_with (go_at_call 176;refine DF.mono ?_;clear DF;rintro e wd ⟨vd,rfl,Od,hbd,Cd⟩;have BD:Below w4.heap.size wc wd:=below_ch Cd s49 (fun k hk=>(blk_lt HO9.out k hk).1);have HOd:Hid _:=Od;obtain⟨da,dc,rfl⟩:=pds_slice (ownP_at Od);have HBD:Hid _:=BD;clear Od hbd Cd BD)
 have B4d:Below w4.heap.size w4 wd:=HB9w.out.trans HBD.out
 have DD:Below X.heap.size X wd:=HD4.out.trans (B4d.mono sX4)
 have PL1:PdsAt wd (.slice a5 L1.length c5) L1:=pdsAt_below (pdsAt_below (ownP_at HO3.out) HB34.out) B4d
 have Bal:Below wd.heap.size wd (wd.alloc (.cells #[.slice a5 L1.length c5,.slice da (keepP L2).length dc] 151)):=(Below.refl _ _).alloc (Nat.le_refl _) _
 have CC:=concat_any (w:=wd.alloc (.cells #[.slice a5 L1.length c5,.slice da (keepP L2).length dc] 151)) (b:=wd.heap.size) (heap_alloc_new wd _) (pdsAt_below PL1 Bal) (pdsAt_below (ownP_at HOd.out) Bal) HP3s.out HKP.out ⟨l1,lk⟩
 obtain⟨OB,hOB⟩:∃OB,L1++keepP L2=OB:=⟨_,rfl⟩
 rw[hOB]at CC
 have HOB2:Hid (objsP (some ⟨b,off,none⟩) ⟨hf,old,row,sd,tp,ro,mo,se,sd'⟩=OB):=HOB.out.trans hOB
 have HDa:Hid (Below X.heap.size X (wd.alloc (.cells #[.slice a5 L1.length c5,.slice da (keepP L2).length dc] 151))):=DD.trans (Bal.mono DD.size)
 have sA:=HDa.out.size
 clear B4d DD PL1 Bal hOB HOB HKP HP3s HOd HBD HB9w HO9 HRB
 go_wp2_with (go_at_call 178;refine CC.mono ?_;clear CC;rintro e we ⟨ve,rfl,Oe,be⟩;obtain⟨_,rr,_,bw,s9⟩:=HALL.out we (HDa.out.trans (be.mono HDa.out.size));obtain⟨⟨r0,r1⟩,f0,f1⟩:=rmb_cells rr;obtain⟨ea,ec,rfl⟩:=pds_slice (ownP_at Oe);have HRe:Hid _:=rr;have HBe:Hid _:=bw;have HOe:Hid _:=Oe;clear rr bw Oe be)
 refine bodyPost_ret (res_rm rfl rfl rfl (rmb_set HRe.out _ _)) rfl ⟨fun e=>absurd (HT.out.symm.trans e) (by decide),fun _=>⟨_,rfl,?_⟩,rmb_below HBe.out (by omega) _ _⟩
 rw[HOB2.out]
 refine ownP_base (row_ch (S:=[w.heap.size+1]) HOe.out ((one_ch _ _ 0 _).trans (one_ch _ _ 1 _)) (fun k hk => ?_)) (by omega)
 have:=(blk_lt HOe.out k hk).1
 simp
 omega
end Go.Proofs.YtkiognecebgaiaaGreatDoor.hp
