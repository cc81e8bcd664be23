/-
  Chapter 9 as the program has it: what Seen must be, and where all that stands. Chapter 9: what the program asks of a heap is what the document asks. Chapter 9 as the specification has it: HeapOk and Young. Chapter 10 as lists: what a word leads to, notes followed. Chapter 13 as lists: what is marked
-/
import Derived.Test.YtkiognecebgaiaaGreatDoorM15
import Derived.Test.YtkiognecebgaiaaGreatDoorM9
import Derived.Test.YtkiognecebgaiaaGreatDoorM3
import Derived.Test.YtkiognecebgaiaaGreatDoorM12
import Derived.Test.YtkiognecebgaiaaGreatDoorHeapS7
import Derived.Test.YtkiognecebgaiaaGreatDoorM8
import Derived.Test.YtkiognecebgaiaaGreatDoorM5
import Derived.Test.YtkiognecebgaiaaGreatDoorM10
namespace Go.Proofs.YtkiognecebgaiaaGreatDoor.hp
open Go.RowKit rows heads words walks
set_option maxRecDepth 100000
set_option linter.unusedVariables false
set_option linter.unusedSimpArgs false
def mustB (up:Int) (sl:Pd→List Int) (d:Pd):Bool:=decide (up≤d.pl)&&(sl d).any (yngW up)
def mustL (up:Int) (sl:Pd→List Int) (ds:List Pd):List Int:=(ds.filter (mustB up sl)).map (·.pl)
theorem mustL_next {up:Int} {sl:Pd→List Int} {ds:List Pd} {k:Nat} (hk:k<ds.length):mustL up sl (ds.take (k+1))=mustL up sl (ds.take k)++(if mustB up sl (ds.getD k pdD)=true then [(ds.getD k pdD).pl] else []):=by
 unfold mustL
 rw[List.take_add_one,List.filter_append,List.map_append,List.getElem?_eq_getElem hk,List.getD_eq_getElem?_getD,List.getElem?_eq_getElem hk]
 simp only[Option.toList_some,Option.getD_some]
 congr 1
 cases h:mustB up sl ds[k]<;>simp[h]
theorem mustL_len (up:Int) (sl:Pd→List Int) (ds:List Pd):(mustL up sl ds).length≤ds.length:=by
 unfold mustL
 rw[List.length_map]
 exact List.length_filter_le _ _
set_option maxHeartbeats 8000000 in
theorem mustSee_any {w:World} {up:Int} {v:Value} {ds:List Pd} {sl:Pd→List Int} (h:PdsAt w v ds) (hs:SlicesP ds) (hl:ds.length≤1048576) (hS:SlotsP w ds sl) :
    Calls Tryz.prog 134 #[rmv up v] w fun e w'=>∃u,e = .returned u∧rows.Own w' w.heap.size u (mustL up sl ds)∧Below w.heap.size w w':=by
 obtain⟨i0,hi,hz0,hz1,hz2⟩:=info_parts info
 have HI:Hid _:=And.intro hi (And.intro hz0 (And.intro hz1 hz2))
 obtain⟨a,cap,rfl⟩:=pds_slice h
 have HP:Hid _:=h
 have HSL:Hid _:=hs
 have B0:Below w.heap.size w (w.alloc (rmb up (.slice a ds.length cap))):=(Below.refl _ _).alloc (Nat.le_refl _) _
 have HALL:Hid (∀V,Below (w.alloc (rmb up (.slice a ds.length cap))).heap.size (w.alloc (rmb up (.slice a ds.length cap))) V→(V.cell? ⟨w.heap.size,0,none⟩=some (.int .i64 up)∧V.cell? ⟨w.heap.size,1,none⟩=some (.slice a ds.length cap))∧Below w.heap.size w V):=by
  intro V hV
  have q0:V.heap[w.heap.size]? = some (rmb up (.slice a ds.length cap)):=(hV.block _ (by simp)).trans (heap_alloc_new w _)
  exact⟨(rmb_cells q0).1,B0.trans (hV.mono B0.size)⟩
 have HSP:Hid _:=hS
 have sW:w.heap.size≤(w.alloc (rmb up (.slice a ds.length cap))).heap.size:=by simp
 clear h hs B0 hS hi hz0 hz1 hz2
 go_enter Tryz.func134,Tryz.ntmps134
 go_upto_region 1 with fail
 generalize w.alloc (rmb up (.slice a ds.length cap))=X at *
 have HOO:Hid _:=own_nothing X X.heap.size (Nat.le_refl _)
 have BX:Below X.heap.size X (X.alloc (.cells #[] 2)):=(Below.refl _ _).alloc (Nat.le_refl _) _
 have HBX:Hid _:=BX
 obtain⟨⟨z0,z1⟩,_⟩:=HALL.out _ BX
 clear BX
 go_wp2_with fail
 clear z0 z1
 go_loopw [3,5,10] (fun u _ q wr=>∃(k:Nat) (u0:Value),u0=u∧k≤ds.length∧q = .int .i64 (k:Int)∧rows.Own wr X.heap.size u0 (mustL up sl (ds.take k))∧Below X.heap.size X wr) (fun _ _ q _=>ds.length-(intOf q).toNat)
 case atStart=>exact⟨0,_,rfl,Nat.zero_le _,rfl,HOO.out,HBX.out⟩
 case round=>
  obtain⟨k,u0,rfl,hk,rfl,hO,hB⟩:=hrel
  have HB:Hid _:=hB
  obtain⟨⟨z0,z1⟩,bw⟩:=HALL.out wr hB
  have HO:Hid _:=hO
  have sr:=hB.size
  by_cases hlt:k<ds.length
  ·obtain⟨b,off,ea,hbl,k0,k1,k2,k3,k4,k5,k6,k7⟩:=pds_cell (pdsAt_below HP.out bw) hlt
   subst ea
   obtain⟨sa,sn,sc,hsv⟩:=HSL.out _ (mem_getDP hlt)
   have hlt':(k:Int)<(ds.length:Int):=by omega
   have SC:=fun V hV=>HSP.out.call V hV k hlt
   have sl1:=HSP.out.len k hlt
   have sl2:=HSP.out.num k hlt
   have HN:Hid _:=mustL_next (up:=up) (sl:=sl) hlt
   obtain⟨d,hd⟩:∃d,ds.getD k pdD=d:=⟨_,rfl⟩
   rw[hd]at k0 k1 k2 k3 k4 k5 k6 k7 hsv sl1 sl2
   simp only[hd]at SC HN
   obtain⟨xs,hxs⟩:∃xs,sl d=xs:=⟨_,rfl⟩
   rw[hxs]at sl1 sl2
   simp only[hxs]at SC
   have hmb:mustB up sl d=(decide (up≤d.pl)&&xs.any (yngW up)):=by unfold mustB;rw[hxs]
   rw[hmb]at HN
   obtain⟨ds',df,dc,dh,dp,dm,du,dl⟩:=d
   simp only at k0 k1 k2 k3 k4 k5 k6 k7 hsv SC HN
   subst hsv
   clear hmb hxs hd hO hB
   have BY:Below wr.heap.size wr (wr.alloc (pdb ⟨ds',df,dc,dh,dp,dm,.slice sa sn sc,dl⟩)):=(Below.refl _ _).alloc (Nat.le_refl _) _
   have CS:=seesYoung_any (w:=wr.alloc (pdb ⟨ds',df,dc,dh,dp,dm,.slice sa sn sc,dl⟩)) (up:=up) (a:=some ⟨b,off,none⟩) (n:=ds.length) (c:=cap) (d:=⟨ds',df,dc,dh,dp,dm,.slice sa sn sc,dl⟩) (xs:=xs) ⟨_,_,_,rfl⟩ sl1 sl2 (fun V hV=>SC V (bw.trans ((BY.trans (hV.mono BY.size)).mono bw.size)))
   obtain⟨⟨p0,p1,p2,p3,p4,p5,p6,p7⟩,_⟩:=pdb_cells (heap_alloc_new wr (pdb ⟨ds',df,dc,dh,dp,dm,.slice sa sn sc,dl⟩))
   simp only at p0 p1 p2 p3 p4 p5 p6 p7
   have HBY:Hid _:=BY
   obtain⟨P,hP⟩:∃P,xs.any (yngW up)=P:=⟨_,rfl⟩
   rw[hP]at CS HN
   clear hP SC sl1 sl2 bw z0 z1 BY
   go_upto_region 5 with fail
   clear k0 k1 k2 k3 k4 k5 k6 k7
   have sY:wr.heap.size<(wr.alloc (pdb ⟨ds',df,dc,dh,dp,dm,.slice sa sn sc,dl⟩)).heap.size:=by simp
   have HY:Hid (Below X.heap.size X (wr.alloc (pdb ⟨ds',df,dc,dh,dp,dm,.slice sa sn sc,dl⟩))):=HB.out.trans (HBY.out.mono HB.out.size)
   have HOY:Hid (rows.Own (wr.alloc (pdb ⟨ds',df,dc,dh,dp,dm,.slice sa sn sc,dl⟩)) X.heap.size u0 (mustL up sl (ds.take k))):=own_below HO.out HBY.out
   obtain⟨⟨z0,z1⟩,_⟩:=HALL.out _ HY.out
   generalize wr.alloc (pdb ⟨ds',df,dc,dh,dp,dm,.slice sa sn sc,dl⟩)=Y at *
   by_cases hge:dl ≥ up
   ·have hle:up≤dl:=hge
    rw[decide_eq_true hle,Bool.true_and]at HN
    cases P
    ·rw[if_neg (by decide),List.append_nil]at HN
     go_wp2_with (go_at_call 155;refine CS.mono ?_;clear CS p0 p1 p2 p3 p4 p5 p6 p7 z0 z1;rintro e w5 ⟨rfl,b5⟩;have HB5:Hid _:=b5;clear b5)
     exact⟨⟨k+1,_,rfl,by omega,by go_num,by rw[HN.out];exact own_below HOY.out HB5.out,HY.out.trans (HB5.out.mono HY.out.size)⟩,by simp[intOf];omega⟩
    ·rw[if_pos rfl]at HN
     obtain⟨qs,hqs⟩:∃qs,mustL up sl (ds.take k)=qs:=⟨_,rfl⟩
     have hql:qs.length≤1048576:=by rw[←hqs];exact Nat.le_trans (mustL_len _ _ _) (by simp;omega)
     rw[hqs]at HN HOY
     clear hqs HO
     obtain⟨va,vcp,rfl,_,_,_,_⟩:=own_ints HOY.out
     have HSTEP:Hid (∀(w5:World),Below Y.heap.size Y w5→∀(v':Value) (w6:World),w6.ownsRow X.heap.size 2 1 v' (qs.length+1) (cellsOf qs++[.int .i64 dl])→(w5.alloc (.cells #[.int .i64 dl] 2)).grownBy w6 (Value.slice va qs.length vcp).ownBlock→(v'.ownBlock=(Value.slice va qs.length vcp).ownBlock∨v'.ownBlock=some (w5.alloc (.cells #[.int .i64 dl] 2)).heap.size)→(∃a n c,v' = .slice a n c)∧rows.Own w6 X.heap.size v' (mustL up sl (ds.take (k+1)))∧Below X.heap.size X w6):=fun w5 b5 v' w6 h1 h2 h3=>by
      obtain⟨on,gr,nb⟩:=app_int h1 h2 h3
      rw[HN.out]
      obtain⟨a',c',e',_⟩:=own_ints on
      have B5:=HY.out.trans (b5.mono HY.out.size)
      exact⟨⟨_,_,_,e'⟩,on,below_grown B5 gr (own_lt (own_below HOY.out b5)) B5.size⟩
     go_wp2_with (first
      |(go_at_call 155;refine CS.mono ?_;clear CS z0 z1;rintro e w5 ⟨rfl,b5⟩;have p7':=(b5.cell (p:=⟨wr.heap.size,7,none⟩) sY).trans p7;have HOA:Hid (rows.Own (w5.alloc (.cells #[.int .i64 dl] 2)) X.heap.size (.slice va qs.length vcp) qs):=World.ownsRow.alloc (own_below HOY.out b5) _;have hba:X.heap.size≤(w5.alloc (.cells #[.int .i64 dl] 2)).heap.size:=(by have:=b5.size;have:=HY.out.size;simp;omega);have HNW:Hid _:=one_int w5 dl;have HST5:Hid _:=HSTEP.out w5 b5;clear p0 p1 p2 p3 p4 p5 p6 p7 b5 HSTEP)
      |(refine wpList_append_own_at _ rfl (.tmp 24) (.tmp 27) 48 rfl X.heap.size 2 i0 (.int .i64 0) 1 8 Tryz.underlying48 HI.out.1 HI.out.2.1 HI.out.2.2.1 HI.out.2.2.2 rfl (by decide) (.slice va qs.length vcp) qs.length (cellsOf qs) rfl HOA.out ⟨w5.heap.size,0,none⟩ 1 1 [.int .i64 dl] rfl rfl HNW.out (by simp[Value.oneCell']) (by unfold maxLen;omega) (by omega) hba ?_;intro v' w6 hown hgrow _ hat;obtain⟨⟨va',vn',vc',rfl⟩,st⟩:=HST5.out v' w6 hown hgrow hat;have HST:Hid _:=st;clear st hown hgrow hat))
     exact⟨⟨k+1,_,rfl,by omega,by go_num,HST.out⟩,by simp[intOf];omega⟩
   ·have hle:¬up≤dl:=hge
    rw[decide_eq_false hle,Bool.false_and,if_neg (by decide),List.append_nil]at HN
    clear CS
    go_wp2
    exact⟨⟨k+1,_,rfl,by omega,by go_num,by rw[HN.out];exact HOY.out,HY.out⟩,by simp[intOf];omega⟩
  ·have e:k=ds.length:=by omega
   subst e
   rw[List.take_length]at hO
   have HF:Hid _:=hO
   have HBW:Hid _:=bw
   have hlt':¬(ds.length:Int)<(ds.length:Int):=by omega
   clear hO hB bw z0 z1
   go_wp2
   go_ret
   exact⟨_,rfl,own_base HF.out sW,HBW.out⟩
theorem numB_bad (H:Hp):hbad H=false↔(numB H=true∧H.roots.length=6∧H.mourned.length≤40):=by
 unfold numB sideB evn hbad hb8 hb7 hb6 hb5 hb4 hb3 hb2 hb1 hb0
 simp only[inR,Bool.or_eq_false_iff,Bool.not_eq_false',Bool.and_eq_true,Bool.or_eq_true,decide_eq_true_eq,beq_iff_eq,bne_eq_false_iff_eq,decide_eq_false_iff_not]
 omega
theorem num_parts {H:Hp} (hn:numB H=true):∃half old top fr:Nat,H.half=half∧H.old=old∧H.top=top∧frO H=fr∧hf H=half∧od H=old∧tp H=top∧bs H=fr∧fr+top≤2*half∧H.row.length=2*half+old∧half≤200∧old≤400:=by
 obtain⟨N⟩:=numN hn
 refine⟨N.half,N.old,N.top,N.fr,N.eh,N.eo,N.et,N.ef,?_,?_,?_,?_,N.lt,N.ln,N.bh,N.bo⟩
 ·unfold hf;rw[N.eh];simp
 ·unfold od;rw[N.eo];simp
 ·unfold tp;rw[N.et];simp
 ·have:=N.ef
  unfold frO at this
  unfold bs;rw[this];simp
theorem walkR_room {H:Hp} (hn:numB H=true):walkR H.row (frO H) (toO H)=roomW H∧walkR H.row (2*H.half) (2*H.half+H.old)=upW H:=by
 obtain⟨half,old,top,fr,e1,e2,e3,e4,e5,e6,e7,e8,h1,h2,h3,h4⟩:=num_parts hn
 have et:toO H=(fr:Int)+top:=by have:toO H=frO H+H.top:=rfl;rw[this,e4,e3]
 constructor
 ·unfold walkR
  rw[if_pos]
  ·unfold roomW
   rw[e8,e7,et,e4]
   congr 1
  ·simp only[rangeOk,rowOk,Bool.and_eq_true,decide_eq_true_eq]
   rw[et,e4]
   omega
 ·unfold walkR
  rw[if_pos]
  ·unfold upW
   rw[e5,e6,e1,e2]
   congr 1
  ·simp only[rangeOk,rowOk,Bool.and_eq_true,decide_eq_true_eq]
   rw[e1,e2]
   omega
theorem up_room (a:Option Addr) (H:Hp) (r:List Int):((pdsOf a H.row r).any upOnly) = !(r.all (roomOk H)):=by
 unfold pdsOf
 induction r with
 |nil=>rfl
 |cons x r ih=>
  simp only[List.map_cons,List.any_cons,List.all_cons,ih]
  have:upOnly (pdOf a H.row x.toNat) = !(roomOk H x):=by
   show ((uF (H.row.getD x.toNat 0)==6) || uP (H.row.getD x.toNat 0)) = !(!(uF (H.row.getD x.toNat 0)==6) && !(uP (H.row.getD x.toNat 0)))
   cases (uF (H.row.getD x.toNat 0)==6)<;>cases uP (H.row.getD x.toNat 0)<;>rfl
  rw[this]
  cases roomOk H x<;>cases r.all (roomOk H)<;>rfl
theorem all_zero_iff (xs:List Int):xs.all (· == 0)=true↔∀i,i<xs.length→xs.getD i 0=0:=by
 rw[List.all_eq_true]
 constructor
 ·intro h i hi
  have:=h xs[i] (List.getElem_mem hi)
  rw[List.getD_eq_getElem?_getD,List.getElem?_eq_getElem hi]
  simpa using this
 ·intro h x hx
  obtain⟨i,hi,rfl⟩:=List.getElem_of_mem hx
  have:=h i hi
  rw[List.getD_eq_getElem?_getD,List.getElem?_eq_getElem hi]at this
  simpa using this
theorem zeros_same {H:Hp} (hn:numB H=true):zerosO H=zeroB H:=by
 obtain⟨half,old,top,fr,e1,e2,e3,e4,e5,e6,e7,e8,h1,h2,h3,h4⟩:=num_parts hn
 have et:toO H=(fr:Int)+top:=by have:toO H=frO H+H.top:=rfl;rw[this,e4,e3]
 have key:zerosO H=true↔zeroB H=true:=by
  unfold zerosO zeroB
  rw[Bool.and_eq_true,all_zero_iff,all_zero_iff,List.all_eq_true,et,e4,e1,e5]
  have q1:((fr:Int)).toNat=fr:=by omega
  have q2:((fr:Int)+top).toNat=fr+top:=by omega
  have q3:(2*(half:Int)-((fr:Int)+top)).toNat=2*half-(fr+top):=by omega
  rw[q1,q2,q3]
  constructor
  ·rintro⟨a1,a2⟩ i hi
   rw[List.mem_range]at hi
   unfold zeroAt
   rw[e8,e7]
   by_cases c1:i<fr
   ·have:=a1 i (by rw[List.length_take];omega)
    rw[List.getD_eq_getElem?_getD,List.getElem?_take,if_pos c1,←List.getD_eq_getElem?_getD]at this
    rw[this];simp
   ·by_cases c2:fr+top≤i
    ·have:=a2 (i-(fr+top)) (by rw[List.length_take,List.length_drop];omega)
     rw[List.getD_eq_getElem?_getD,List.getElem?_take,if_pos (by omega),List.getElem?_drop,show fr+top+(i-(fr+top))=i by omega,←List.getD_eq_getElem?_getD]at this
     rw[this];simp
    ·simp[c1,c2]
  ·intro h
   have g:∀i,i<2*half→(i<fr∨fr+top≤i)→H.row.getD i 0=0:=by
    intro i hi hc
    have:=h i (List.mem_range.2 hi)
    unfold zeroAt at this
    rw[e8,e7]at this
    simp only[Bool.or_eq_true,Bool.not_eq_true',Bool.or_eq_false_iff,decide_eq_false_iff_not,beq_iff_eq]at this
    rcases this with t|t
    ·omega
    ·exact t
   constructor
   ·intro i hi
    rw[List.length_take]at hi
    rw[List.getD_eq_getElem?_getD,List.getElem?_take,if_pos (by omega),←List.getD_eq_getElem?_getD]
    exact g i (by omega) (by omega)
   ·intro i hi
    rw[List.length_take,List.length_drop]at hi
    rw[List.getD_eq_getElem?_getD,List.getElem?_take,if_pos (by omega),List.getElem?_drop,←List.getD_eq_getElem?_getD]
    exact g _ (by omega) (by omega)
 cases h1:zerosO H<;>cases h2:zeroB H<;>simp_all
theorem room_some {a:Option Addr} {H:Hp} (hn:numB H=true) (hr:roomB a H=true):∃r u,roomW H=some r∧upW H=some u∧placesB H=some (r++u)∧objsP a H=pdsOf a H.row r++keepP (pdsOf a H.row u):=by
 obtain⟨w1,w2⟩:=walkR_room hn
 unfold roomB lowP walkOk walked at hr
 unfold objsP lowP highP walked
 rw[w1,w2,zeros_same hn,up_room]at hr
 rw[w1,w2]
 simp only[Bool.and_eq_true,Bool.not_not]at hr
 obtain⟨⟨⟨a1,a2⟩,a3⟩,a4⟩:=hr
 obtain⟨r,e1⟩:=Option.isSome_iff_exists.1 a1
 obtain⟨u,e2⟩:=Option.isSome_iff_exists.1 a4
 rw[e1]at a2
 refine⟨r,u,e1,e2,placesB_yes a3 e1 e2 a2,?_⟩
 rw[e1,e2];rfl
theorem room_none {a:Option Addr} {H:Hp} (hn:numB H=true) (hr:roomB a H=false):placesB H=none:=by
 obtain⟨w1,w2⟩:=walkR_room hn
 unfold roomB lowP walkOk walked at hr
 rw[w1,w2,zeros_same hn,up_room]at hr
 cases e1:roomW H with
 |none=>exact placesB_room e1
 |some r=>
  cases e2:upW H with
  |none=>exact placesB_up e2
  |some u=>
   cases e3:zeroB H
   ·exact placesB_zero e3
   ·rw[e1,e2,e3]at hr
    refine placesB_no e1 ?_
    simpa using hr
theorem pdOf_pl (a:Option Addr) (xs:List Int) (j:Nat):(pdOf a xs j).pl=j:=rfl
structure Rooms (a:Option Addr) (H:Hp) (ps:List Int) (ds:List Pd):Prop where
 plc:∀p ∈ ps,∃j:Nat,p=j∧j<H.row.length∧chunk H.row j≠0
 ofD:∀d ∈ ds,∃j:Nat,d=pdOf a H.row j∧(j:Int) ∈ ps∧uF (H.row.getD j 0)≠6
 ofP:∀j:Nat,(j:Int) ∈ ps→uF (H.row.getD j 0)≠6→pdOf a H.row j ∈ ds
theorem rooms_of {a:Option Addr} {H:Hp} {ps:List Int} (hn:numB H=true) (hr:roomB a H=true) (h2:placesB H=some ps) (h3:placesR H=some ps):Rooms a H ps (objsP a H):=by
 obtain⟨r,u,e1,e2,e3,e4⟩:=room_some hn hr
 rw[e3]at h2
 cases h2
 have hp:=(places_plc h3).1
 refine⟨hp,fun d hd => ?_,fun j hj h6 => ?_⟩
 ·obtain⟨j,rfl,_,h6⟩:=objs_in hr d hd
  refine⟨j,rfl,?_,h6⟩
  rw[e4]at hd
  rcases List.mem_append.1 hd with hd|hd
  ·obtain⟨x,hx,e⟩:=List.mem_map.1 hd
   obtain⟨k,ek,_⟩:=hp x (List.mem_append.2 (.inl hx))
   have:=congrArg Pd.pl e
   rw[ek]at this hx
   simp only[pdOf_pl,Int.toNat_natCast]at this
   rw[←this]
   exact List.mem_append.2 (.inl hx)
  ·obtain⟨x,hx,e⟩:=List.mem_map.1 (List.mem_filter.1 hd).1
   obtain⟨k,ek,_⟩:=hp x (List.mem_append.2 (.inr hx))
   have:=congrArg Pd.pl e
   rw[ek]at this hx
   simp only[pdOf_pl,Int.toNat_natCast]at this
   rw[←this]
   exact List.mem_append.2 (.inr hx)
 ·rw[e4]
  rcases List.mem_append.1 hj with hj|hj
  ·exact List.mem_append.2 (.inl (List.mem_map.2 ⟨_,hj,by simp⟩))
  ·refine List.mem_append.2 (.inr (List.mem_filter.2 ⟨List.mem_map.2 ⟨_,hj,by simp⟩,?_⟩))
   show (!(uF (H.row.getD j 0)==6))=true
   simpa using h6
section
variable {a:Option Addr} {H:Hp} {ps:List Int} {ds:List Pd}
theorem Rooms.has (h:Rooms a H ps ds) (x:Int):hasP ds x=(decide (x ∈ ps) && !(uF (H.row.getD x.toNat 0)==6)):=by
 have key:hasP ds x=true↔(x ∈ ps∧uF (H.row.getD x.toNat 0)≠6):=by
  unfold hasP
  rw[List.any_eq_true]
  constructor
  ·rintro⟨d,hd,e⟩
   obtain⟨j,rfl,hj,h6⟩:=h.ofD d hd
   have e':(j:Int)=x:=by simpa [pdOf_pl] using e
   subst e'
   exact⟨hj,by simpa using h6⟩
  ·rintro⟨hx,h6⟩
   obtain⟨j,rfl,_,_⟩:=h.plc x hx
   exact⟨_,h.ofP j hx (by simpa using h6),by simp[pdOf_pl]⟩
 cases e:hasP ds x
 ·symm
  rw[Bool.and_eq_false_iff]
  by_cases hx:x ∈ ps
  ·right
   have:¬(uF (H.row.getD x.toNat 0)≠6):=fun h6=>by rw[key.2 ⟨hx,h6⟩]at e;cases e
   simpa using this
  ·left;simpa using hx
 ·obtain⟨a1,a2⟩:=key.1 e
  rw[decide_eq_true a1]
  simpa using a2
theorem Rooms.word (h:Rooms a H ps ds) (x:Int):holdW ds x=wordIn H ps x:=by
 unfold holdW wordIn
 cases e:isA x
 ·simp
 ·have:isW x=true:=by unfold isW;rw[e];simp
  rw[this,h.has];simp
theorem Rooms.list (h:Rooms a H ps ds) (xs:List Int):holdL ds xs=xs.all (wordIn H ps):=by
 unfold holdL
 congr 1
 funext x
 exact h.word x
theorem slP_of (a:Option Addr) (H:Hp) (j:Nat) (h6:uF (H.row.getD j 0)≠6):slP H.row (pdOf a H.row j)=slotsOf H j:=by
 unfold slP slotsOf
 rw[cnP_of,pdOf_pl,Int.toNat_natCast]
 congr 1
 unfold cnS
 by_cases h7:uF (H.row.getD j 0)=7
 ·rw[if_pos h7,if_pos h7];rfl
 ·rw[if_neg h7,if_neg h7,if_neg h6]
theorem slots_free {H:Hp} {p:Int} (h6:uF (H.row.getD p.toNat 0)=6):slotsOf H p=[]:=by
 unfold slotsOf cnS
 rw[if_neg (by omega),if_pos h6];simp
theorem Rooms.slots (h:Rooms a H ps ds):holdS ds (slP H.row)=slotsOk H ps:=by
 have key:holdS ds (slP H.row)=true↔slotsOk H ps=true:=by
  unfold holdS slotsOk
  rw[List.all_eq_true,List.all_eq_true]
  constructor
  ·intro g p hp
   obtain⟨j,rfl,_,_⟩:=h.plc p hp
   by_cases h6:uF (H.row.getD j 0)=6
   ·rw[slots_free (by simpa using h6)];rfl
   ·have:=g _ (h.ofP j hp h6)
    rwa [h.list,slP_of a H j h6]at this
  ·intro g d hd
   obtain⟨j,rfl,hj,h6⟩:=h.ofD d hd
   rw[h.list,slP_of a H j h6]
   exact g _ hj
 cases e1:holdS ds (slP H.row)<;>cases e2:slotsOk H ps<;>simp_all
end
def ntH (H:Hp) (p:Int):Bool:=uF (H.row.getD p.toNat 0)==7
def nxH (H:Hp) (p:Int):Int:=av (H.row.getD (p.toNat+1) 0)
theorem endsL_is (H:Hp):∀(n:Nat) (p:Int),endsL H n p=ends (ntH H) (nxH H) n p
 |0,_=>rfl
 |n+1,p=>by
  unfold endsL ends ntH
  by_cases h:uF (H.row.getD p.toNat 0)=7
  ·rw[if_pos h,if_pos (by simpa using h),endsL_is H n];rfl
  ·rw[if_neg h,if_neg (by simpa using h)]
theorem notes_next {H:Hp} {ps:List Int} (hN:Notes H ps):∀p ∈ ps,ntH H p=true→nxH H p ∈ ps:=fun p hp h=>(hN p hp (by simpa [ntH] using h)).2.2
theorem endsOk_is {H:Hp} {ps:List Int} (hN:Notes H ps):endsOk H ps=true↔∀p ∈ ps,Fins (ntH H) (nxH H) p:=by
 unfold endsOk
 rw[List.all_eq_true]
 constructor
 ·intro h p hp
  have:=h p hp
  rw[endsL_is]at this
  exact⟨_,this⟩
 ·intro h p hp
  rw[endsL_is]
  exact (fins_iff (notes_next hN) hp (by omega)).2 (h p hp)
theorem Rooms.ends {a:Option Addr} {H:Hp} {ps:List Int} {ds:List Pd} (h:Rooms a H ps ds) (hN:Notes H ps):endsOk H ps=true↔∀i,i<ds.length→Fins (ntH H) (nxH H) (ds.getD i pdD).pl:=by
 rw[endsOk_is hN]
 constructor
 ·intro g i hi
  obtain⟨j,e,hj,_⟩:=h.ofD _ (mem_getDP hi)
  rw[e,pdOf_pl]
  exact g _ hj
 ·intro g p hp
  obtain⟨j,rfl,_,_⟩:=h.plc p hp
  by_cases h6:uF (H.row.getD j 0)=6
  ·refine fins_stop ?_
   unfold ntH
   rw[Int.toNat_natCast,h6];rfl
  ·obtain⟨i,hi,e⟩:=List.getElem_of_mem (h.ofP j hp h6)
   have:=g i hi
   rw[List.getD_eq_getElem?_getD,List.getElem?_eq_getElem hi]at this
   simp only[Option.getD_some]at this
   rw[e,pdOf_pl]at this
   exact this
theorem seen_low {up:Int} {sl:Pd→List Int} {ds:List Pd} (h:∀d ∈ ds,d.pl<up):mustL up sl ds=[]:=by
 unfold mustL
 rw[List.map_eq_nil_iff,List.filter_eq_nil_iff]
 intro d hd e
 have:=h d hd
 simp only[mustB,Bool.and_eq_true,decide_eq_true_eq]at e
 omega
theorem mustL_app (up:Int) (sl:Pd→List Int) (ds es:List Pd):mustL up sl (ds++es)=mustL up sl ds++mustL up sl es:=by
 unfold mustL
 rw[List.filter_append,List.map_append]
theorem seen_high (a:Option Addr) (H:Hp):∀u:List Int,(∀p ∈ u,∃j:Nat,p=j∧2*H.half≤(j:Int))→mustL (2*H.half) (slP H.row) (keepP (pdsOf a H.row u))=u.filter (fun p=>(slotsOf H p).any (youngB H))
 | [],_=>rfl
 |p :: u,h=>by
  have ih:=seen_high a H u (fun q hq=>h q (List.mem_cons_of_mem _ hq))
  obtain⟨j,rfl,hj⟩:=h p (List.mem_cons_self ..)
  have e0:pdsOf a H.row ((j:Int) :: u)=pdOf a H.row j :: pdsOf a H.row u:=by unfold pdsOf;simp
  rw[e0]
  by_cases h6:uF (H.row.getD j 0)=6
  ·have e1:keepP (pdOf a H.row j :: pdsOf a H.row u)=keepP (pdsOf a H.row u):=by
     unfold keepP
     rw[List.filter_cons_of_neg]
     show ¬(!(uF (H.row.getD j 0)==6))=true
     rw[h6];decide
   rw[e1,ih,List.filter_cons_of_neg]
   rw[slots_free (by simpa using h6)];simp
  ·have e1:keepP (pdOf a H.row j :: pdsOf a H.row u)=pdOf a H.row j :: keepP (pdsOf a H.row u):=by
     unfold keepP
     rw[List.filter_cons_of_pos]
     show (!(uF (H.row.getD j 0)==6))=true
     simpa using h6
   have e2:mustB (2*H.half) (slP H.row) (pdOf a H.row j)=(slotsOf H j).any (youngB H):=by
    unfold mustB
    rw[pdOf_pl,decide_eq_true hj,Bool.true_and,slP_of a H j h6];rfl
   rw[e1]
   unfold mustL at ih ⊢
   cases e3:(slotsOf H j).any (youngB H)
   ·rw[List.filter_cons_of_neg (by rw[e2,e3];decide),List.filter_cons_of_neg (by rw[e3];decide)];exact ih
   ·rw[List.filter_cons_of_pos (by rw[e2];exact e3),List.filter_cons_of_pos (by exact e3),List.map_cons,ih,pdOf_pl]
theorem seen_same {a:Option Addr} {H:Hp} (hn:numB H=true) (hr:roomB a H=true):mustL (2*H.half) (slP H.row) (objsP a H)=seenL H:=by
 obtain⟨r,u,e1,e2,e3,e4⟩:=room_some hn hr
 obtain⟨half,old,top,fr,q1,q2,q3,q4,q5,q6,q7,q8,h1,h2,h3,h4⟩:=num_parts hn
 have m1:∀p ∈ r,∃j:Nat,p=j∧j<2*half:=fun p hp=>by
  obtain⟨j,e,_,b,_⟩:=walkO_mem (by rw[q8,q7];omega) e1 hp
  rw[q8,q7]at b
  exact⟨j,e,by omega⟩
 have m2:∀p ∈ u,∃j:Nat,p=j∧2*H.half≤(j:Int):=fun p hp=>by
  obtain⟨j,e,b,_,_⟩:=walkO_mem (by rw[q5,q6];omega) e2 hp
  rw[q5]at b
  exact⟨j,e,by rw[q1];omega⟩
 rw[e4,mustL_app,seen_high a H u m2,seen_low,List.nil_append]
 ·unfold seenL;rw[e2];rfl
 ·intro d hd
  obtain⟨p,hp,rfl⟩:=List.mem_map.1 hd
  obtain⟨j,rfl,hj⟩:=m1 p hp
  rw[Int.toNat_natCast,pdOf_pl,q1];omega
def lstB (H:Hp) (ds:List Pd):Bool:=(decide (H.roots.length=6)&&decide (H.mourned.length≤40))&&(H.mourned.all isA&&holdL ds H.roots&&holdL ds H.mourned)
def openB (a:Option Addr) (H:Hp):Bool:=numB H&&(roomB a H&&holdS (objsP a H) (slP H.row)&&endsOk H ((objsP a H).map (·.pl))&&lstB H (objsP a H))
theorem mourn_all (f g:Int→Bool) (xs:List Int):xs.all (fun x=>f x&&g x)=(xs.all f&&xs.all g):=by
 induction xs with
 |nil=>rfl
 |cons x xs ih=>
  simp only[List.all_cons,ih]
  cases f x<;>cases g x<;>cases xs.all f<;>cases xs.all g<;>rfl
theorem rooms_notes {a:Option Addr} {H:Hp} {ps:List Int} {ds:List Pd} (h:Rooms a H ps ds) (hN:Notes H ps) (hs:slotsOk H ps=true):Notes H (ds.map (·.pl)):=by
 intro p hp h7
 obtain⟨d,hd,rfl⟩:=List.mem_map.1 hp
 obtain⟨j,rfl,hj,h6⟩:=h.ofD d hd
 rw[pdOf_pl]at h7 ⊢
 obtain⟨n1,n2,n3⟩:=hN _ hj h7
 refine⟨n1,n2,?_⟩
 rw[Int.toNat_natCast]at n1 n2 n3 h7 ⊢
 have hw:wordIn H ps (H.row.getD (j+1) 0)=true:=by
  unfold slotsOk at hs
  rw[List.all_eq_true]at hs
  have:=hs _ hj
  rw[List.all_eq_true]at this
  refine this _ ?_
  unfold slotsOf cnS
  rw[Int.toNat_natCast,if_pos h7,List.mem_iff_getElem?]
  refine⟨0,?_⟩
  rw[List.getElem?_take,if_pos (by decide),List.getElem?_drop,Nat.add_zero,List.getElem?_eq_getElem n1,List.getD_eq_getElem?_getD,List.getElem?_eq_getElem n1];rfl
 rw[←h.word]at hw
 unfold holdW at hw
 rw[n2,if_pos rfl]at hw
 unfold hasP at hw
 rw[List.any_eq_true]at hw
 obtain⟨d,hd,e⟩:=hw
 exact List.mem_map.2 ⟨d,hd,by simpa using e⟩
theorem openB_is (a:Option Addr) (H:Hp):openB a H=rightB H:=by
 unfold openB
 cases hn:numB H
 ·rw[Bool.false_and]
  unfold rightB placesR
  have:hbad H=true:=by
   cases e:hbad H
   ·have:=(numB_bad H).1 e
    rw[hn]at this;cases this.1
   ·rfl
  rw[if_pos this]
 rw[Bool.true_and]
 cases hr:roomB a H
 ·rw[Bool.false_and,Bool.false_and,Bool.false_and]
  unfold rightB placesR
  rw[room_none hn hr]
  split<;>simp_all
 rw[Bool.true_and]
 obtain⟨r,u,e1,e2,e3,e4⟩:=room_some hn hr
 by_cases hl:H.roots.length=6∧H.mourned.length≤40
 ·have hb:hbad H=false:=(numB_bad H).2 ⟨hn,hl⟩
  have hR:placesR H=some (r++u):=by unfold placesR;rw[if_neg (by rw[hb];decide),e3]
  have RM:=rooms_of hn hr e3 hR
  unfold rightB
  rw[hR]
  simp only
  rw[RM.slots]
  cases hs:slotsOk H (r++u)
  ·rfl
  ·have hN:=notes_of RM.plc hs
   have hE:endsOk H ((objsP a H).map (·.pl))=endsOk H (r++u):=by
    have k1:=RM.ends hN
    have k2:=endsOk_is (rooms_notes RM hN hs)
    have key:endsOk H ((objsP a H).map (·.pl))=true↔endsOk H (r++u)=true:=by
     rw[k1,k2]
     constructor
     ·intro g i hi
      exact g _ (List.mem_map.2 ⟨_,mem_getDP hi,rfl⟩)
     ·intro g p hp
      obtain⟨d,hd,rfl⟩:=List.mem_map.1 hp
      obtain⟨i,hi,rfl⟩:=List.getElem_of_mem hd
      have:=g i hi
      rwa [List.getD_eq_getElem?_getD,List.getElem?_eq_getElem hi]at this
    cases q1:endsOk H ((objsP a H).map (·.pl))
    ·cases q2:endsOk H (r++u)
     ·rfl
     ·rw[key.2 q2]at q1;cases q1
    ·exact (key.1 q1).symm
   rw[hE]
   unfold lstB mournOk
   rw[decide_eq_true hl.1,decide_eq_true hl.2,RM.list,RM.list,mourn_all]
   cases endsOk H (r++u)<;>cases H.mourned.all isA<;>cases H.roots.all (wordIn H (r++u))<;>cases H.mourned.all (wordIn H (r++u))<;>rfl
 ·have hb:hbad H=true:=by
    cases e:hbad H
    ·exact absurd ((numB_bad H).1 e).2 hl
    ·rfl
  have hR:placesR H=none:=by unfold placesR;rw[if_pos hb]
  unfold rightB
  rw[hR]
  have:lstB H (objsP a H)=false:=by
   unfold lstB
   rw[Bool.and_eq_false_iff]
   left
   rw[Bool.and_eq_false_iff]
   by_cases q:H.roots.length=6
   ·right;exact decide_eq_false (fun q2=>hl ⟨q,q2⟩)
   ·left;exact decide_eq_false q
  rw[this,Bool.and_false]
def okB (a:Option Addr) (H:Hp):Bool:=openB a H&&decide (H.seen=mustL (2*H.half) (slP H.row) (objsP a H))
theorem openB_parts {a:Option Addr} {H:Hp} (h:openB a H=true):numB H=true∧roomB a H=true∧holdS (objsP a H) (slP H.row)=true∧endsOk H ((objsP a H).map (·.pl))=true∧lstB H (objsP a H)=true:=by
 unfold openB at h
 simp only[Bool.and_eq_true]at h
 exact⟨h.1,h.2.1.1.1,h.2.1.1.2,h.2.1.2,h.2.2⟩
theorem okB_is (a:Option Addr) (H:Hp):okB a H=heapOk H:=by
 unfold okB heapOk
 cases e:openB a H
 ·rw[←openB_is a H,e];rfl
 ·obtain⟨hn,hr,_⟩:=openB_parts e
  rw[←openB_is a H,e,seen_same hn hr]
end Go.Proofs.YtkiognecebgaiaaGreatDoor.hp
namespace Go.Proofs.YtkiognecebgaiaaGreatDoor.hp
open Go.RowKit rows heads words walks region
set_option maxRecDepth 100000
set_option linter.unusedVariables false
set_option linter.unusedSimpArgs false
theorem right_some {H:Hp} (h:rightB H=true):∃ps,placesR H=some ps:=by
 unfold rightB at h
 cases d:placesR H with
 |none=>rw[d]at h;cases h
 |some ps=>exact⟨ps,rfl⟩
set_option maxHeartbeats 8000000 in
theorem sHeapOk_any {w:World} {vr vo vm vs:Value} {H:Hp} (h:HpAt w vr vo vm vs H) (hs:hpSize H≤1048576) :
    Calls Tryz.prog 62 #[hpv H vr vo vm vs] w fun e w'=>e = .returned (.bool (heapOk H))∧Below w.heap.size w w':=by
 obtain⟨_,_,_,hsl⟩:=hp_parts hs
 obtain⟨a1,c1,a2,c2,a3,c3,a4,c4,e1,e2,e3,e4⟩:=hpAt_slices h
 subst e1 e2 e3 e4
 have B0:Below w.heap.size w (w.alloc (hpb H (.slice a1 H.row.length c1) (.slice a2 H.roots.length c2) (.slice a3 H.mourned.length c3) (.slice a4 H.seen.length c4))):=(Below.refl _ _).alloc (Nat.le_refl _) _
 have T0:=nine_new w H (.slice a1 H.row.length c1) (.slice a2 H.roots.length c2) (.slice a3 H.mourned.length c3) (.slice a4 H.seen.length c4)
 have HT0:Hid _:=T0
 have HB0:Hid _:=B0
 have HH0:Hid (HpAt _ (.slice a1 H.row.length c1) (.slice a2 H.roots.length c2) (.slice a3 H.mourned.length c3) (.slice a4 H.seen.length c4) H):=hpAt_below h B0
 cases dr:rightB H
 ·have e:heapOk H=false:=by unfold heapOk;rw[dr];rfl
  rw[e]
  obtain⟨⟨z0,z1,z2,z3,z4⟩,⟨z5,z6,z7,z8⟩⟩:=nine_grow T0
  have HWD:Hid (∀x:Ext (w.alloc (hpb H (.slice a1 H.row.length c1) (.slice a2 H.roots.length c2) (.slice a3 H.mourned.length c3) (.slice a4 H.seen.length c4))).heap.size (w.alloc (hpb H (.slice a1 H.row.length c1) (.slice a2 H.roots.length c2) (.slice a3 H.mourned.length c3) (.slice a4 H.seen.length c4))),Calls Tryz.prog 94 #[hpv H (.slice a1 H.row.length c1) (.slice a2 H.roots.length c2) (.slice a3 H.mourned.length c3) (.slice a4 H.seen.length c4)] x.to fun e w''=>e = .returned (.bool false)∧∃y:Ext (w.alloc (hpb H (.slice a1 H.row.length c1) (.slice a2 H.roots.length c2) (.slice a3 H.mourned.length c3) (.slice a4 H.seen.length c4))).heap.size (w.alloc (hpb H (.slice a1 H.row.length c1) (.slice a2 H.roots.length c2) (.slice a3 H.mourned.length c3) (.slice a4 H.seen.length c4))),w''=y.to):=fun x=>calls_grow (Nat.le_refl _) (dr▸l9Right_any (hpAt_below HH0.out x.below))
  clear B0 T0 h e dr
  go_enter Tryz.func62,Tryz.ntmps62
  go_upto_region 1 with fail
  generalize (w.alloc (hpb H (.slice a1 H.row.length c1) (.slice a2 H.roots.length c2) (.slice a3 H.mourned.length c3) (.slice a4 H.seen.length c4)))=X at *
  haveI:=ext_any X
  refine region_grow (n:=X.heap.size) (by kernel_rfl) (by kernel_rfl) ?_
  repeat (go_big_quiet_step ((go_at_call 94;exact HWD.out _)))
  refine wpQuiet_nil ?_
  intro _ hw'
  obtain⟨x,rfl⟩:=hw'
  have HBE:Hid _:=HB0.out.trans (x.below.mono HB0.out.size)
  clear z0 z1 z2 z3 z4 z5 z6 z7 z8 HWD
  generalize x.to=W at *
  clear x this
  go_wp2
  go_ret
  exact⟨rfl,HBE.out⟩
 ·have e:heapOk H=decide (H.seen=seenL H):=by unfold heapOk;rw[dr];rfl
  rw[e]
  obtain⟨ps,hps⟩:=right_some dr
  obtain⟨N,_,r,u,_,hu,_,_⟩:=places_facts hps
  have HR9:Hid (∀W,Below (w.alloc (hpb H (.slice a1 H.row.length c1) (.slice a2 H.roots.length c2) (.slice a3 H.mourned.length c3) (.slice a4 H.seen.length c4))).heap.size (w.alloc (hpb H (.slice a1 H.row.length c1) (.slice a2 H.roots.length c2) (.slice a3 H.mourned.length c3) (.slice a4 H.seen.length c4))) W→Calls Tryz.prog 94 #[hpv H (.slice a1 H.row.length c1) (.slice a2 H.roots.length c2) (.slice a3 H.mourned.length c3) (.slice a4 H.seen.length c4)] W fun e w'=>e = .returned (.bool true)∧Below W.heap.size W w'):=fun W hW=>dr▸l9Right_any (hpAt_below HH0.out hW)
  have HS9:Hid (∀W,Below (w.alloc (hpb H (.slice a1 H.row.length c1) (.slice a2 H.roots.length c2) (.slice a3 H.mourned.length c3) (.slice a4 H.seen.length c4))).heap.size (w.alloc (hpb H (.slice a1 H.row.length c1) (.slice a2 H.roots.length c2) (.slice a3 H.mourned.length c3) (.slice a4 H.seen.length c4))) W→Calls Tryz.prog 96 #[hpv H (.slice a1 H.row.length c1) (.slice a2 H.roots.length c2) (.slice a3 H.mourned.length c3) (.slice a4 H.seen.length c4)] W fun e w'=>∃v',e = .returned v'∧rows.Own w' W.heap.size v' (seenL H)∧Below W.heap.size W w'):=fun W hW=>l9Seen_any (hpAt_below HH0.out hW) N hu
  generalize seenL H=S at *
  clear B0 h e dr hps N hu
  go_enter Tryz.func62,Tryz.ntmps62
  go_upto_region 1 with fail
  generalize (w.alloc (hpb H (.slice a1 H.row.length c1) (.slice a2 H.roots.length c2) (.slice a3 H.mourned.length c3) (.slice a4 H.seen.length c4)))=X at *
  obtain⟨⟨z0,z1,z2,z3,z4⟩,⟨z5,z6,z7,z8⟩,_⟩:=nine_cells T0
  clear T0
  go_region_law (first
   |(have hh:=HR9;clear hh;go_simp;go_at_call 94;refine (HR9.out _ (Below.refl _ _).drew).mono ?_;clear HR9;rintro e w2 ⟨rfl,b2⟩;have b2':Below X.heap.size X w2:=⟨b2.os,b2.tape,b2.output,b2.size,b2.block⟩;have HB2:Hid _:=b2';clear b2 b2' z0 z1 z2 z3 z4 z5 z6 z7 z8;obtain⟨⟨z0,z1,z2,z3,z4⟩,⟨z5,z6,z7,z8⟩,_⟩:=nine_cells (nine_below HT0.out HB2.out))
   |(have hh:=HS9;clear hh;go_simp;go_at_call 96;refine (HS9.out _ HB2.out).mono ?_;clear HS9;rintro e w3 ⟨v3,rfl,O3,b3⟩;have HB3:Hid (Below X.heap.size X w3):=HB2.out.trans (b3.mono HB2.out.size);have HSM:Hid _:=l1Same_any (intsAt_below HH0.out.2.2.2 HB3.out) (own_ints O3) hsl;obtain⟨sa,sn,sc,rfl⟩:=ints_slice (own_ints O3);clear O3 b3 z0 z1 z2 z3 z4 z5 z6 z7 z8;obtain⟨⟨z0,z1,z2,z3,z4⟩,⟨z5,z6,z7,z8⟩,_⟩:=nine_cells (nine_below HT0.out HB3.out))
   |(have hh:=HSM;clear hh;go_simp;go_at_call 95;refine Calls.mono HSM.out ?_;clear HSM;rintro e w4 ⟨rfl,q4⟩;have HB4:Hid (Below w.heap.size w w4):=(HB0.out.trans (HB3.out.mono HB0.out.size)).trans ((bel_of_drewN q4).mono (HB0.out.trans (HB3.out.mono HB0.out.size)).size);clear q4))
  all_goals (go_wp2)
  all_goals go_ret
  all_goals exact⟨rfl,HB4.out⟩
end Go.Proofs.YtkiognecebgaiaaGreatDoor.hp
namespace Go.Proofs.YtkiognecebgaiaaGreatDoor.hp
open Go.RowKit rows heads words walks
set_option maxRecDepth 100000
set_option linter.unusedVariables false
def toNote (H:Hp) (x:Int):Bool:=isA x&&ntH H (av x)
def noteW (H:Hp) (x:Int):Int:=H.row.getD ((av x).toNat+1) 0
def folL (H:Hp):Nat→Int→Int
 |0,x=>x
 |n+1,x=>if toNote H x=true then folL H n (noteW H x) else x
def rkL (H:Hp):Nat→Int→Nat
 |0,_=>0
 |n+1,x=>if toNote H x=true then rkL H n (noteW H x)+1 else 0
def fol (H:Hp) (x:Int):Int:=folL H 1000 x
def rk (H:Hp) (x:Int):Nat:=rkL H 1000 x
theorem fol_stop {H:Hp} {x:Int} (h:toNote H x=false):fol H x=x:=by
 unfold fol folL
 rw[if_neg (by rw[h];decide)]
theorem nx_note (H:Hp) (x:Int):nxH H (av x)=av (noteW H x):=rfl
theorem folL_more (H:Hp):∀(n:Nat) (x:Int),(isA x=true→ends (ntH H) (nxH H) n (av x)=true)→folL H n x=folL H (n+1) x∧rkL H n x=rkL H (n+1) x
 |0,x,h=>by
  have:toNote H x=false:=by
   unfold toNote
   cases e:isA x
   ·rfl
   ·cases h e
  unfold folL rkL
  rw[if_neg (by rw[this];decide),if_neg (by rw[this];decide)]
  exact⟨rfl,rfl⟩
 |n+1,x,h=>by
  cases e:toNote H x
  ·have e0:¬toNote H x=true:=by rw[e];decide
   constructor
   ·rw[folL,if_neg e0,folL,if_neg e0]
   ·rw[rkL,if_neg e0,rkL,if_neg e0]
  ·have e':=e
   unfold toNote at e'
   rw[Bool.and_eq_true]at e'
   have h1:=h e'.1
   unfold ends at h1
   rw[if_pos e'.2,nx_note]at h1
   obtain⟨i1,i2⟩:=folL_more H n (noteW H x) (fun _=>h1)
   constructor
   ·rw[folL,if_pos e,folL,if_pos e,i1]
   ·rw[rkL,if_pos e,rkL,if_pos e,i2]
structure Rt (H:Hp) (ps:List Int):Prop where
 some':placesR H=some ps
 plc:∀p ∈ ps,∃j:Nat,p=j∧j<H.row.length∧chunk H.row j≠0
 notes:Notes H ps
 fin:∀p ∈ ps,ends (ntH H) (nxH H) 1000 p=true
 slots:slotsOk H ps=true
 roots:H.roots.all (wordIn H ps)=true
 mourned:mournOk H ps=true
theorem rt_of {H:Hp} (h:rightB H=true):∃ps,Rt H ps:=by
 obtain⟨ps,hps⟩:=right_some h
 unfold rightB at h
 rw[hps]at h
 simp only[Bool.and_eq_true]at h
 obtain⟨⟨⟨h1,h2⟩,h3⟩,h4⟩:=h
 obtain⟨hp,hl⟩:=places_plc hps
 have hN:=notes_of hp h1
 refine⟨ps,hps,hp,hN,fun p hpp => ?_,h1,h3,h4⟩
 exact (fins_iff (notes_next hN) hpp (by omega)).2 ((endsOk_is hN).1 h2 p hpp)
theorem Rt.len {H:Hp} {ps:List Int} (R:Rt H ps):H.row.length≤1000:=by
 have N:=(places_facts R.some').1
 have:=N.len
 have:=N.half1
 have:=N.old1
 omega
theorem ok_right {H:Hp} (h:heapOk H=true):rightB H=true∧H.seen=seenL H:=by
 unfold heapOk at h
 rw[Bool.and_eq_true,decide_eq_true_eq]at h
 exact h
theorem word_place {H:Hp} {ps:List Int} {x:Int} (h:wordIn H ps x=true) (hA:isA x=true):av x ∈ ps∧uF (H.row.getD (av x).toNat 0)≠6:=by
 unfold wordIn at h
 rw[hA]at h
 simpa using (by simpa using h:isW x=true∧_).2
theorem Rt.note {H:Hp} {ps:List Int} (R:Rt H ps) {x:Int} (hx:wordIn H ps x=true) (hn:toNote H x=true):(av x).toNat+1<H.row.length∧wordIn H ps (noteW H x)=true∧isA (noteW H x)=true∧fol H x=fol H (noteW H x)∧rk H (noteW H x)<rk H x:=by
 have hn':=hn
 unfold toNote at hn'
 rw[Bool.and_eq_true]at hn'
 obtain⟨hA,hnt⟩:=hn'
 obtain⟨hm,_⟩:=word_place hx hA
 have h7:uF (H.row.getD (av x).toNat 0)=7:=by simpa [ntH] using hnt
 obtain⟨n1,n2,n3⟩:=R.notes _ hm h7
 have hf:=R.fin _ hm
 have hf':ends (ntH H) (nxH H) 999 (av (noteW H x))=true:=by
  unfold ends at hf
  rw[if_pos hnt,nx_note]at hf
  exact hf
 obtain⟨i1,i2⟩:=folL_more H 999 (noteW H x) (fun _=>hf')
 refine⟨n1,?_,n2,?_,?_⟩
 ·have hs:=R.slots
  unfold slotsOk at hs
  rw[List.all_eq_true]at hs
  have h1:=hs _ hm
  rw[List.all_eq_true]at h1
  refine h1 _ ?_
  unfold slotsOf cnS noteW
  rw[if_pos h7,List.mem_iff_getElem?]
  refine⟨0,?_⟩
  rw[List.getElem?_take,if_pos (by decide),List.getElem?_drop,Nat.add_zero,List.getElem?_eq_getElem n1,List.getD_eq_getElem?_getD,List.getElem?_eq_getElem n1];rfl
 ·show folL H 1000 x=folL H 1000 (noteW H x)
  rw[show (1000:Nat)=999+1 from rfl,folL,if_pos hn,i1]
 ·show rkL H 1000 (noteW H x)<rkL H 1000 x
  rw[show rkL H 1000 x=rkL H 999 (noteW H x)+1 by rw[show (1000:Nat)=999+1 from rfl,rkL,if_pos hn],i2]
  exact Nat.lt_succ_self _
theorem Rt.fol {H:Hp} {ps:List Int} (R:Rt H ps):∀(n:Nat) (x:Int),rk H x≤n→wordIn H ps x=true→wordIn H ps (fol H x)=true∧toNote H (hp.fol H x)=false
 |n,x,hr,hx=>by
  cases e:toNote H x
  ·rw[fol_stop e];exact⟨hx,e⟩
  ·obtain⟨_,h2,_,h4,h5⟩:=R.note hx e
   rw[h4]
   match n,hr with
   |0,hr=>omega
   |n+1,hr=>exact R.fol n _ (by omega) h2
theorem Rt.followed {H:Hp} {ps:List Int} (R:Rt H ps) {x:Int} (hx:wordIn H ps x=true):wordIn H ps (hp.fol H x)=true∧toNote H (hp.fol H x)=false:=R.fol _ x (Nat.le_refl _) hx
def tgt (H:Hp) (x:Int):Option Int:=if isA (fol H x)=true then some (av (fol H x)) else none
def fm (H:Hp) (p:Int):Int:=uF (H.row.getD p.toNat 0)
def ObjAt (H:Hp) (ps:List Int) (a:Int):Prop:=a ∈ ps∧fm H a≠6∧fm H a≠7
theorem Rt.tgt_at {H:Hp} {ps:List Int} (R:Rt H ps) {x a:Int} (hx:wordIn H ps x=true) (h:tgt H x=some a):ObjAt H ps a:=by
 obtain⟨h1,h2⟩:=R.followed hx
 unfold tgt at h
 split at h
 ·rename_i hA
  injection h with h
  subst h
  obtain⟨h3,h4⟩:=word_place h1 hA
  refine⟨h3,h4,fun h7 => ?_⟩
  unfold toNote ntH at h2
  rw[hA,Bool.true_and]at h2
  unfold fm at h7
  rw[h7]at h2
  cases h2
 ·cases h
theorem Rt.slot_in {H:Hp} {ps:List Int} (R:Rt H ps) {p:Int} (hp:p ∈ ps) {x:Int} (hx:x ∈ slotsOf H p):wordIn H ps x=true:=by
 have hs:=R.slots
 unfold slotsOk at hs
 rw[List.all_eq_true]at hs
 have h1:=hs _ hp
 rw[List.all_eq_true]at h1
 exact h1 x hx
theorem Rt.root_in {H:Hp} {ps:List Int} (R:Rt H ps) {x:Int} (hx:x ∈ H.roots++H.mourned):wordIn H ps x=true:=by
 rcases List.mem_append.1 hx with h|h
 ·exact List.all_eq_true.1 R.roots x h
 ·have hm:=R.mourned
  unfold mournOk at hm
  have:=List.all_eq_true.1 hm x h
  rw[Bool.and_eq_true]at this
  exact this.2
def meet (M:List Int) (a:Option Int):List Int:=match a with
 |none=>M
 |some a=>if a ∈ M then M else M++[a]
def meetL (H:Hp) (M:List Int) (l:List Int):List Int:=l.foldl (fun M x=>meet M (tgt H x)) M
theorem meetL_next {H:Hp} {M A:List Int} {k:Nat} (hk:k<A.length):meetL H M (A.take (k+1))=meet (meetL H M (A.take k)) (tgt H (A.getD k 0)):=by
 unfold meetL
 rw[List.take_add_one,List.foldl_append,List.getElem?_eq_getElem hk,List.getD_eq_getElem?_getD,List.getElem?_eq_getElem hk]
 rfl
theorem meet_sub {M:List Int} {t:Option Int}:∃l,meet M t=M++l:=by
 unfold meet
 split
 ·exact⟨[],by simp⟩
 ·split
  ·exact⟨[],by simp⟩
  ·exact⟨_,rfl⟩
theorem meetL_sub {H:Hp}:∀ {A M:List Int},∃l,meetL H M A=M++l
 | [],M=>⟨[],by simp[meetL]⟩
 |x :: A,M=>by
  obtain⟨l1,e1⟩:=meet_sub (M:=M) (t:=tgt H x)
  obtain⟨l2,e2⟩:=meetL_sub (H:=H) (A:=A) (M:=meet M (tgt H x))
  exact⟨l1++l2,by show meetL H (meet M (tgt H x)) A=_;rw[e2,e1,List.append_assoc]⟩
theorem meet_in {M:List Int} {t:Option Int} {a:Int} (h:t=some a):a ∈ meet M t:=by
 subst h
 unfold meet
 simp only
 split
 ·assumption
 ·simp
theorem pre_getD {M l:List Int} {k:Nat} (h:k<M.length):(M++l).getD k 0=M.getD k 0:=by
 rw[List.getD_eq_getElem?_getD,List.getElem?_append_left h,←List.getD_eq_getElem?_getD]
def Og (H:Hp) (ps:List Int) (M:List Int):Prop:=M.Nodup∧∀a ∈ M,ObjAt H ps a
theorem Og.meet {H:Hp} {ps M:List Int} {t:Option Int} (h:Og H ps M) (ht:∀a,t=some a→ObjAt H ps a):Og H ps (hp.meet M t):=by
 unfold hp.meet
 split
 ·exact h
 ·rename_i a
  split
  ·exact h
  ·rename_i hn
   refine⟨List.nodup_append.2 ⟨h.1,by simp,fun x hx y hy e => ?_⟩,fun x hx => ?_⟩
   ·have e2:y=a:=by simpa using hy
    exact hn (by rw[←e2,←e];exact hx)
   ·rcases List.mem_append.1 hx with hx|hx
    ·exact h.2 x hx
    ·have e2:x=a:=by simpa using hx
     rw[e2];exact ht a rfl
theorem Og.meetL {H:Hp} {ps:List Int}:∀ {A M:List Int},Og H ps M→(∀x ∈ A,∀a,tgt H x=some a→ObjAt H ps a)→Og H ps (hp.meetL H M A)
 | [],M,h,_=>h
 |x :: A,M,h,hA=>Og.meetL (A:=A) (h.meet (fun a ha=>hA x (List.mem_cons_self ..) a ha)) (fun y hy=>hA y (List.mem_cons_of_mem _ hy))
theorem nodup_sub_len:∀ {M ps:List Int},M.Nodup→(∀a ∈ M,a ∈ ps)→M.length≤ps.length
 | [],_,_,_=>Nat.zero_le _
 |a :: M,ps,h,hs=>by
  obtain⟨h1,h2⟩:=List.nodup_cons.1 h
  have ha:=hs a (List.mem_cons_self ..)
  have:=nodup_sub_len (M:=M) (ps:=ps.erase a) h2 (fun b hb=>(List.mem_erase_of_ne (by rintro rfl;exact h1 hb)).2 (hs b (List.mem_cons_of_mem _ hb)))
  rw[List.length_erase_of_mem ha]at this
  have hp:0<ps.length:=List.length_pos_of_mem ha
  rw[List.length_cons]
  omega
theorem Og.len {H:Hp} {ps M:List Int} (R:Rt H ps) (h:Og H ps M):M.length≤500:=Nat.le_trans (nodup_sub_len h.1 (fun a ha=>(h.2 a ha).1)) (places_plc R.some').2
def ordN (H:Hp):Nat→Nat→List Int→List Int
 |0,_,M=>M
 |n+1,k,M=>if k<M.length then ordN H n (k+1) (meetL H M (slotsOf H (M.getD k 0))) else M
def ordH (H:Hp):List Int:=ordN H 1000 0 (meetL H [] (H.roots++H.mourned))
theorem ordN_end {H:Hp} {n k:Nat} {M:List Int} (h:¬k<M.length):ordN H n k M=M:=by
 cases n
 ·rfl
 ·unfold ordN;rw[if_neg h]
theorem ordN_step {H:Hp} {k:Nat} {M:List Int} (h:k<M.length) (hk:k<1000):ordN H (1000-k) k M=ordN H (1000-(k+1)) (k+1) (meetL H M (slotsOf H (M.getD k 0))):=by
 obtain⟨n,hn⟩:∃n,1000-k=n+1:=⟨1000-(k+1),by omega⟩
 rw[hn,show 1000-(k+1)=n by omega]
 conv=>lhs;unfold ordN
 rw[if_pos h]
theorem Rt.slots_go {H:Hp} {ps:List Int} (R:Rt H ps) {p:Int} (hp:p ∈ ps):∀x ∈ slotsOf H p,∀a,tgt H x=some a→ObjAt H ps a:=fun x hx a ha=>R.tgt_at (R.slot_in hp hx) ha
theorem Rt.roots_go {H:Hp} {ps:List Int} (R:Rt H ps):∀x ∈ H.roots++H.mourned,∀a,tgt H x=some a→ObjAt H ps a:=fun x hx a ha=>R.tgt_at (R.root_in hx) ha
theorem ordN_og {H:Hp} {ps:List Int} (R:Rt H ps):∀ {n k:Nat} {M:List Int},Og H ps M→Og H ps (ordN H n k M)
 |0,_,_,h=>h
 |n+1,k,M,h=>by
  unfold ordN
  split
  ·rename_i hk
   refine ordN_og R (h.meetL (R.slots_go (h.2 _ ?_).1))
   rw[List.getD_eq_getElem?_getD,List.getElem?_eq_getElem hk]
   exact List.getElem_mem hk
  ·exact h
theorem ordN_sub {H:Hp}:∀ {n k:Nat} {M:List Int},∃l,ordN H n k M=M++l
 |0,_,_=>⟨[],by simp[ordN]⟩
 |n+1,k,M=>by
  unfold ordN
  split
  ·obtain⟨l1,e1⟩:=meetL_sub (H:=H) (A:=slotsOf H (M.getD k 0)) (M:=M)
   obtain⟨l2,e2⟩:=ordN_sub (H:=H) (n:=n) (k:=k+1) (M:=meetL H M (slotsOf H (M.getD k 0)))
   exact⟨l1++l2,by rw[e2,e1,List.append_assoc]⟩
  ·exact⟨[],by simp⟩
theorem Rt.ordH_og {H:Hp} {ps:List Int} (R:Rt H ps):Og H ps (ordH H):=ordN_og R (Og.meetL ⟨by simp,fun a ha=>by cases ha⟩ R.roots_go)
theorem meetL_has {H:Hp}:∀ {A M:List Int} {x a:Int},x ∈ A→tgt H x=some a→a ∈ meetL H M A
 |y :: A,M,x,a,hx,ha=>by
  rcases List.mem_cons.1 hx with rfl|hx
  ·obtain⟨l,e⟩:=meetL_sub (H:=H) (A:=A) (M:=meet M (tgt H x))
   show a ∈ meetL H (meet M (tgt H x)) A
   rw[e]
   exact List.mem_append_left _ (meet_in ha)
  ·exact meetL_has (A:=A) hx ha
theorem ordH_root {H:Hp} {x a:Int} (hx:x ∈ H.roots++H.mourned) (ha:tgt H x=some a):a ∈ ordH H:=by
 obtain⟨l,e⟩:=ordN_sub (H:=H) (n:=1000) (k:=0) (M:=meetL H [] (H.roots++H.mourned))
 unfold ordH
 rw[e]
 exact List.mem_append_left _ (meetL_has hx ha)
theorem ordN_slot {H:Hp} {ps:List Int} (R:Rt H ps):∀ {n k:Nat} {M:List Int},Og H ps M→501≤n+k→(∀t,t<k→t<M.length→∀x ∈ slotsOf H (M.getD t 0),∀a,tgt H x=some a→a ∈ M)→∀t,t<(ordN H n k M).length→∀x ∈ slotsOf H ((ordN H n k M).getD t 0),∀a,tgt H x=some a→a ∈ ordN H n k M
 |0,k,M,h,hn,hd=>fun t ht=>hd t (by have:=h.len R;have:t<M.length:=ht;omega) ht
 |n+1,k,M,h,hn,hd=>by
  unfold ordN
  split
  ·rename_i hk
   have hm:M.getD k 0 ∈ M:=by
    rw[List.getD_eq_getElem?_getD,List.getElem?_eq_getElem hk]
    exact List.getElem_mem hk
   obtain⟨l,e⟩:=meetL_sub (H:=H) (A:=slotsOf H (M.getD k 0)) (M:=M)
   refine ordN_slot R (h.meetL (R.slots_go (h.2 _ hm).1)) (by omega) (fun t ht htl x hx a ha => ?_)
   by_cases e1:t=k
   ·subst e1
    rw[e,pre_getD hk]at hx
    exact meetL_has hx ha
   ·have htm:t<M.length:=by omega
    rw[e,pre_getD htm]at hx
    rw[e]
    exact List.mem_append_left _ (hd t (by omega) htm x hx a ha)
  ·rename_i hk
   exact fun t ht=>hd t (by omega) ht
theorem Rt.ordH_slot {H:Hp} {ps:List Int} (R:Rt H ps) {t:Nat} (ht:t<(ordH H).length):∀x ∈ slotsOf H ((ordH H).getD t 0),∀a,tgt H x=some a→a ∈ ordH H:=
 ordN_slot R (n:=1000) (k:=0) (Og.meetL ⟨by simp,fun a ha=>by cases ha⟩ R.roots_go) (by omega) (fun t h=>by omega) t ht
def idxM (R:List Int) (a:Int):Nat:=R.findIdx (fun x=>x==a)
theorem idxM_at {R:List Int} {a:Int} {k:Nat} (hk:k<R.length) (h:R.getD k 0=a) (hn:∀t,t<k→R.getD t 0≠a):idxM R a=k:=by
 unfold idxM
 rw[List.findIdx_eq hk]
 rw[List.getD_eq_getElem?_getD,List.getElem?_eq_getElem hk]at h
 refine⟨by simpa using h,fun j hj => ?_⟩
 have:=hn j hj
 rw[List.getD_eq_getElem?_getD,List.getElem?_eq_getElem (by omega)]at this
 simpa using this
theorem idxM_pre {M l:List Int} {a:Int} (h:a ∈ M):idxM (M++l) a=idxM M a:=by
 unfold idxM
 rw[List.findIdx_append,if_pos (List.findIdx_lt_length_of_exists ⟨a,h,by simp⟩)]
def refW (H:Hp) (R:List Int) (x:Int):gr.Rf:=if isI (fol H x)=true then (1,iv (fol H x)) else if isA (fol H x)=true then (2,(idxM R (av (fol H x)):Int)+1) else (0,0)
theorem refW_pre {H:Hp} {M l:List Int} {x:Int} (h:∀a,tgt H x=some a→a ∈ M):refW H (M++l) x=refW H M x:=by
 unfold refW
 split
 ·rfl
 ·split
  ·rename_i hA
   rw[idxM_pre (h _ (by unfold tgt;rw[if_pos hA]))]
  ·rfl
def obS (H:Hp) (R:List Int) (k:Nat):gr.Ob:=⟨(k:Int)+1,uC (H.row.getD (R.getD k 0).toNat 0),uF (H.row.getD (R.getD k 0).toNat 0),uH (H.row.getD (R.getD k 0).toNat 0),(slotsOf H (R.getD k 0)).map (refW H R)⟩
def grS (H:Hp) (R:List Int):gr.Gr:=⟨(List.range R.length).map (obS H R),H.roots.map (refW H R),H.mourned.map (refW H R),(R.length:Int)+1,H.seed⟩
def shownG (H:Hp):gr.Gr:=if heapOk H=true∧(ordH H).length≤200 then grS H (ordH H) else ⟨[],[],[],0,0⟩
end Go.Proofs.YtkiognecebgaiaaGreatDoor.hp
namespace Go.Proofs.YtkiognecebgaiaaGreatDoor.hp
open Go.RowKit rows heads words walks region
set_option maxRecDepth 100000
set_option linter.unusedVariables false
set_option linter.unusedSimpArgs false
set_option maxHeartbeats 8000000 in
theorem l10Follow_any {w:World} {vr vo vm vs:Value} {H:Hp} (h:HpAt w vr vo vm vs H) {ps:List Int} (R:Rt H ps) (x:Int) (hx:wordIn H ps x=true) :
    Calls Tryz.prog 98 #[hpv H vr vo vm vs,.int .i64 x] w fun e w'=>e = .returned (.int .i64 (fol H x))∧Below w.heap.size w w':=by
 obtain⟨a1,c1,a2,c2,a3,c3,a4,c4,e1,e2,e3,e4⟩:=hpAt_slices h
 subst e1 e2 e3 e4
 have B0:Below w.heap.size w (w.alloc (hpb H (.slice a1 H.row.length c1) (.slice a2 H.roots.length c2) (.slice a3 H.mourned.length c3) (.slice a4 H.seen.length c4))):=(Below.refl _ _).alloc (Nat.le_refl _) _
 have HB0:Hid _:=B0
 have HT0:Hid _:=nine_new w H (.slice a1 H.row.length c1) (.slice a2 H.roots.length c2) (.slice a3 H.mourned.length c3) (.slice a4 H.seen.length c4)
 have HH:Hid _:=h
 obtain⟨A,hA⟩:∃A,fol H x=A:=⟨_,rfl⟩
 rw[hA]
 have HA:Hid _:=hA
 have HR:Hid _:=R
 have HX:Hid _:=hx
 clear h B0 hA R hx
 go_enter Tryz.func98,Tryz.ntmps98
 go_wp2_with fail
 go_loopw [1,5,6] (fun u _ _ wz=>∃y:Int,u = .int .i64 y∧wordIn H ps y=true∧fol H y=A∧Nine wz w.heap.size 58 (.int .i64 H.half) (.int .i64 H.old) (.slice a1 H.row.length c1) (.int .i64 H.side) (.int .i64 H.top) (.slice a2 H.roots.length c2) (.slice a3 H.mourned.length c3) (.slice a4 H.seen.length c4) (.int .i64 H.seed)∧Below w.heap.size w wz) (fun u _ _ _=>rk H (intOf u))
 case atStart=>exact⟨x,rfl,HX.out,HA.out,HT0.out,HB0.out⟩
 case round=>
  obtain⟨y,rfl,hy,hF,hT,hB⟩:=hrel
  clear HT0 HB0 HA HX
  obtain⟨⟨z0,z1,z2,z3,z4⟩,⟨z5,z6,z7,z8⟩,_⟩:=nine_cells hT
  have sr:=hB.size
  have SA:=sAddrOf_any y
  have HT:Hid _:=hT
  have HB:Hid _:=hB
  have HF:Hid _:=hF
  cases dA:isA y
  ·have HE:Hid (A=y):=by show _=_;rw[←hF];exact fol_stop (by unfold toNote;rw[dA];rfl)
   rw[dA]at SA
   clear hT hB hF hy dA
   go_wp2_with (go_at_call 97;refine (SA _).mono ?_;clear SA;rintro e w3 ⟨rfl,hw3⟩;rw[hw3];clear hw3 w3)
   go_ret
   exact⟨by rw[HE.out];rfl,HB.out⟩
  ·rw[dA]at SA
   obtain⟨hm,_⟩:=word_place hy dA
   obtain⟨j,hj,hjl,_⟩:=HR.out.plc _ hm
   have hI:=(hpAt_below HH.out hB).1
   have L4:=l4Head_any hI j hjl
   unfold hw at L4
   have HST:Hid (toNote H y=false→A=y):=fun e=>by rw[←hF];exact fol_stop e
   have HNT:Hid (toNote H y=true→_):=fun e=>HR.out.note hy e
   have htn:toNote H y=(uF (H.row.getD j 0)==7):=by unfold toNote ntH;rw[dA,hj,Int.toNat_natCast];rfl
   have hnw:noteW H y=H.row.getD (j+1) 0:=by unfold noteW;rw[hj,Int.toNat_natCast]
   simp only[hnw,hj,Int.toNat_natCast]at HNT
   rw[hj]at SA
   generalize uF (H.row.getD j 0)=f at *
   generalize uS (H.row.getD j 0)=s at *
   generalize uC (H.row.getD j 0)=c at *
   generalize uH (H.row.getD j 0)=g at *
   generalize uP (H.row.getD j 0)=p0 at *
   generalize uM (H.row.getD j 0)=m at *
   have FF:=field_format s f c g p0 m
   by_cases h7:f=7
   ·obtain⟨hj1,n2,n3,n4,n5⟩:=HNT.out (by rw[htn,h7];rfl)
    subst h7
    obtain⟨a',c',e',_,_,_,hcc⟩:=hI
    have e1:a1=a':=by injection e'
    subst e1
    obtain⟨b,off,rfl,hb,hcc⟩:=hcc (by omega)
    have x1:=hcc (j+1) hj1
    have HN:Hid (wordIn H ps (H.row.getD (j+1) 0)=true∧fol H (H.row.getD (j+1) 0)=A∧rk H (H.row.getD (j+1) 0)<rk H y):=⟨n2,by rw[←n4];exact hF,n5⟩
    generalize H.row.getD (j+1) 0=z at *
    have hlen:=HR.out.len
    have hj0:j≤1000:=by omega
    have hj1':((j:Int)+1).toNat=j+1:=by omega
    have hj2:(0:Int)≤(j:Int)+1:=by omega
    have hj3:(j:Int)+1<(H.row.length:Int):=by omega
    clear hT hB hF hy hcc e' htn hnw HST HNT n2 n3 n4 n5 dA hm hj hjl
    go_wp2_with (first
     |(go_at_call 97;refine (SA _).mono ?_;clear SA;rintro e w3 ⟨rfl,hw3⟩;rw[hw3];clear hw3 w3)
     |(go_at_call 100;refine L4.mono ?_;clear L4;rintro e w2 ⟨rfl,b2⟩;have T2:=nine_below HT.out b2;have x2:=(b2.cell (p:=⟨b,off+(j+1),none⟩) hb).trans x1;clear z0 z1 z2 z3 z4 z5 z6 z7 z8 x1;obtain⟨⟨z0,z1,z2,z3,z4⟩,⟨z5,z6,z7,z8⟩,_⟩:=nine_cells T2;have HT2:Hid _:=T2;have HB2:Hid _:=HB.out.trans (b2.mono sr);clear b2 T2))
    exact⟨⟨z,rfl,HN.out.1,HN.out.2.1,HT2.out,HB2.out⟩,HN.out.2.2⟩
   ·have h7':(f != 7)=true:=by simp[h7]
    have HE:Hid (A=y):=HST.out (by rw[htn];simpa using h7)
    clear hT hB hF hy htn hnw HST HNT dA hm hj hjl hI
    go_wp2_with (first
     |(go_at_call 97;refine (SA _).mono ?_;clear SA;rintro e w3 ⟨rfl,hw3⟩;rw[hw3];clear hw3 w3)
     |(go_at_call 100;refine L4.mono ?_;clear L4;rintro e w2 ⟨rfl,b2⟩;have HB2:Hid _:=HB.out.trans (b2.mono sr);clear b2))
    go_ret
    exact⟨by rw[HE.out];rfl,HB2.out⟩
set_option maxHeartbeats 16000000 in
theorem l10Ref_any {w:World} {vr vo vm vs:Value} {H:Hp} (h:HpAt w vr vo vm vs H) {ps:List Int} (R:Rt H ps) {oa:Option Addr} {oc:Nat} {L:List Int} (hL:IntsAt w (.slice oa L.length oc) L) (hl:L.length≤1000) (x:Int) (hx:wordIn H ps x=true) (ht:∀a,tgt H x=some a→a ∈ L) :
    Calls Tryz.prog 101 #[hpv H vr vo vm vs,.slice oa L.length oc,.int .i64 x] w fun e w'=>e = .returned (gr.rv (refW H L x))∧Below w.heap.size w w':=by
 obtain⟨a1,c1,a2,c2,a3,c3,a4,c4,e1,e2,e3,e4⟩:=hpAt_slices h
 subst e1 e2 e3 e4
 have B1:Below w.heap.size w ((w.alloc (hpb H (.slice a1 H.row.length c1) (.slice a2 H.roots.length c2) (.slice a3 H.mourned.length c3) (.slice a4 H.seen.length c4))).alloc (.cells #[.int .i64 0,.int .i64 0] 31)):=((Below.refl _ _).alloc (Nat.le_refl _) _).alloc (by simp) _
 have HALL:Hid (∃X,X=(w.alloc (hpb H (.slice a1 H.row.length c1) (.slice a2 H.roots.length c2) (.slice a3 H.mourned.length c3) (.slice a4 H.seen.length c4))).alloc (.cells #[.int .i64 0,.int .i64 0] 31)∧X.heap[w.heap.size]? = some (hpb H (.slice a1 H.row.length c1) (.slice a2 H.roots.length c2) (.slice a3 H.mourned.length c3) (.slice a4 H.seen.length c4))∧X.heap[w.heap.size+1]? = some (gr.rb (0,0))∧Below w.heap.size w X):=⟨_,rfl,heap_alloc2_old _ _ _,heap_alloc2_new _ _ _,B1⟩
 have HFO:Hid (∀V,Below w.heap.size w V→Calls Tryz.prog 98 #[hpv H (.slice a1 H.row.length c1) (.slice a2 H.roots.length c2) (.slice a3 H.mourned.length c3) (.slice a4 H.seen.length c4),.int .i64 x] V fun e w'=>e = .returned (.int .i64 (fol H x))∧Below V.heap.size V w'):=fun V hV=>l10Follow_any (hpAt_below h hV) R x hx
 have HL:Hid _:=hL
 have HTI:Hid (isI (fol H x)=true→refW H L x=(1,iv (fol H x))):=fun e=>by unfold refW;rw[if_pos e]
 have HTN:Hid (isI (fol H x)=false→isA (fol H x)=false→refW H L x=(0,0)):=fun e1 e2=>by unfold refW;rw[if_neg (by rw[e1];decide),if_neg (by rw[e2];decide)]
 have HTA:Hid (isI (fol H x)=false→isA (fol H x)=true→refW H L x=(2,(idxM L (av (fol H x)):Int)+1)∧av (fol H x) ∈ L):=fun e1 e2=>⟨by unfold refW;rw[if_neg (by rw[e1];decide),if_pos e2],ht _ (by unfold tgt;rw[if_pos e2])⟩
 clear B1 h R hL hx ht
 obtain⟨E,hE⟩:∃E,refW H L x=E:=⟨_,rfl⟩
 rw[hE]at HTI HTN HTA ⊢
 clear hE
 generalize fol H x=y at *
 go_enter Tryz.func101,Tryz.ntmps101
 go_upto_region 1 with fail
 obtain⟨X,hX,q0,q1,BX⟩:=HALL.out
 rw[←hX]
 clear hX HALL
 have HBX:Hid _:=BX
 have HQ1:Hid _:=q1
 obtain⟨⟨z0,z1,z2,z3,z4⟩,⟨z5,z6,z7,z8⟩,_⟩:=nine_cells q0
 have FO:=HFO.out X BX
 clear HFO q0 q1 BX
 go_wp2_with fail
 refine FO.mono ?_
 clear FO z0 z1 z2 z3 z4 z5 z6 z7 z8
 rintro e w3 ⟨rfl,b3⟩
 have q3:=(b3.block _ (lt_of_block HQ1.out)).trans HQ1.out
 obtain⟨r0,r1,rf⟩:=gr.rb_cells q3
 have rf0:=rf 0
 have rf1:=rf 1
 have HQ3:Hid _:=q3
 have HB3:Hid _:=HBX.out.trans (b3.mono HBX.out.size)
 clear b3 q3 rf HBX HQ1
 have SI:=sIntOf_any y
 cases dI:isI y
 ·rw[dI]at SI
  have SA:=sAddrOf_any y
  cases dA:isA y
  ·rw[dA]at SA
   have HE:Hid _:=HTN.out dI dA
   clear dI dA HTI HTN HTA
   go_wp2_with (first
    |(go_at_call 131;refine (SI _).mono ?_;clear SI;rintro e w4 ⟨rfl,hw4⟩;rw[hw4];clear hw4 w4)
    |(go_at_call 97;refine (SA _).mono ?_;clear SA;rintro e w4 ⟨rfl,hw4⟩;rw[hw4];clear hw4 w4))
   exact bodyPost_ret (gr.res_rf rfl rfl (gr.rb_set HQ3.out 0 0)) rfl ⟨by rw[HE.out],(HB3.out.setCell (p:=⟨w.heap.size+1,0,none⟩) (Nat.le_succ _) _).setCell (p:=⟨w.heap.size+1,1,none⟩) (Nat.le_succ _) _⟩
  ·rw[dA]at SA
   obtain⟨hE,hm⟩:=HTA.out dI dA
   have HE:Hid _:=hE
   have HM:Hid _:=hm
   clear dI dA HTI HTN HTA hE hm
   generalize av y=a at *
   go_wp2_with (first
    |(go_at_call 131;refine (SI _).mono ?_;clear SI;rintro e w4 ⟨rfl,hw4⟩;rw[hw4];clear hw4 w4)
    |(go_at_call 97;refine (SA _).mono ?_;clear SA;rintro e w4 ⟨rfl,hw4⟩;rw[hw4];clear hw4 w4))
   go_loopw [11] (fun q wz=>∃k:Nat,k≤L.length∧q = .int .i64 (k:Int)∧(∀t,t<k→L.getD t 0≠a)∧wz=w3) (fun q _=>L.length-(intOf q).toNat)
   case atStart=>exact⟨0,Nat.zero_le _,rfl,fun t ht=>by omega,rfl⟩
   case round=>
    obtain⟨k,hk,rfl,hne,rfl⟩:=hrel
    have hlt:k<L.length:=by
     rcases Nat.lt_or_ge k L.length with h|h
     ·exact h
     ·obtain⟨t,ht,et⟩:=List.getElem_of_mem HM.out
      exact absurd (by rw[List.getD_eq_getElem?_getD,List.getElem?_eq_getElem ht];exact et) (hne t (by omega))
    obtain⟨lb,lo,ea,hlb,x0⟩:=ints_cell (intsAt_below HL.out HB3.out) hlt
    subst ea
    have hlt':(k:Int)<(L.length:Int):=by omega
    by_cases hka:L.getD k 0=a
    ·have HI:Hid _:=idxM_at hlt hka hne
     rw[hka]at x0
     have hka':(a != a)=false:=by simp
     clear hne hka
     go_wp2_with fail
     exact bodyPost_ret (gr.res_rf rfl rfl (gr.rb_set HQ3.out 2 ((k:Int)+1))) rfl ⟨by rw[HE.out,HI.out],(HB3.out.setCell (p:=⟨w.heap.size+1,0,none⟩) (Nat.le_succ _) _).setCell (p:=⟨w.heap.size+1,1,none⟩) (Nat.le_succ _) _⟩
    ·have HNE:Hid (∀t,t<k+1→L.getD t 0≠a):=fun t ht=>by
       by_cases e:t=k
       ·rw[e];exact hka
       ·exact hne t (by omega)
     have hka':(L.getD k 0 != a)=true:=by simpa using hka
     generalize L.getD k 0=b at *
     clear hne
     go_wp2
     exact⟨⟨k+1,by omega,by go_num,HNE.out,by first|rfl|trivial⟩,by simp[intOf];omega⟩
 ·rw[dI]at SI
  have HE:Hid _:=HTI.out dI
  clear dI HTI HTN HTA
  generalize iv y=n at *
  go_wp2_with (go_at_call 131;refine (SI _).mono ?_;clear SI;rintro e w4 ⟨rfl,hw4⟩;rw[hw4];clear hw4 w4)
  exact bodyPost_ret (gr.res_rf rfl rfl (gr.rb_set HQ3.out 1 n)) rfl ⟨by rw[HE.out],(HB3.out.setCell (p:=⟨w.heap.size+1,0,none⟩) (Nat.le_succ _) _).setCell (p:=⟨w.heap.size+1,1,none⟩) (Nat.le_succ _) _⟩
end Go.Proofs.YtkiognecebgaiaaGreatDoor.hp
namespace Go.Proofs.YtkiognecebgaiaaGreatDoor.hp
open Go.RowKit rows heads words walks
set_option maxRecDepth 100000
set_option linter.unusedVariables false
set_option linter.unusedSimpArgs false
set_option maxHeartbeats 4000000 in
theorem note_any {w:World} {s f c h:Int} {p m:Bool} {sa:Option Addr} {sn sc:Nat} {xs:List Int} (hx:0<xs.length)
    (hS:∀V,Below w.heap.size w V→Calls Tryz.prog 158 #[cv s f c h p m (.slice sa sn sc)] V fun e w'=>∃ua un uc,e = .returned (.slice ua un uc)∧IntsAt w' (.slice ua un uc) xs∧Below V.heap.size V w') :
    Calls Tryz.prog 182 #[cv s f c h p m (.slice sa sn sc)] w fun e w'=>e = .returned (.int .i64 (xs.getD 0 0))∧Below w.heap.size w w':=by
 obtain⟨y,hy⟩:∃y,xs.getD 0 0=y:=⟨_,rfl⟩
 rw[hy]
 have HYY:Hid _:=hy
 clear hy
 have B0:Below w.heap.size w (w.alloc (cb s f c h p m (.slice sa sn sc))):=(Below.refl _ _).alloc (Nat.le_refl _) _
 have HB0:Hid _:=B0
 have SC:=hS _ B0
 clear hS B0
 go_enter Tryz.func182,Tryz.ntmps182
 go_wp2_with (go_at_call 158;refine SC.mono ?_;clear SC;rintro e w3 ⟨ua,un,uc,rfl,i3,b3⟩;have HB3:Hid _:=HB0.out.trans (b3.mono HB0.out.size);obtain⟨b,off,ea,_,x0⟩:=ints_cellI i3 hx;subst ea;obtain⟨a',c',e',l1,l2,_,_⟩:=i3;injection e' with e1 e2 e3;subst e1 e2 e3;rw[HYY.out]at x0;have x1:=x0;rw[Nat.add_zero]at x1;have hx':(0:Int)<(xs.length:Int):=(by omega);clear b3)
 go_ret
 exact⟨rfl,HB3.out⟩
end Go.Proofs.YtkiognecebgaiaaGreatDoor.hp
