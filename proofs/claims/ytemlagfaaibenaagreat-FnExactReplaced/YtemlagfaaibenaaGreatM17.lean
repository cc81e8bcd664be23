/-
  Chapter 9 as the program has it: what Seen must be, and where all that stands. Chapter 9: what the program asks of a heap is what the document asks.
-/
import Derived.Test.YtemlagfaaibenaaGreatM16
import Derived.Test.YtemlagfaaibenaaGreatM11
import Derived.Test.YtemlagfaaibenaaGreatM2
import Derived.Test.YtemlagfaaibenaaGreatM14
namespace Go.Proofs.YtemlagfaaibenaaGreat.hp
open Go.RowKit rows heads words walks
set_option maxRecDepth 100000
set_option linter.unusedVariables false
set_option linter.unusedSimpArgs false
def mustB (up:Int) (sl:Pd→List Int) (d:Pd):Bool:=decide (up≤d.pl)&&(sl d).any (yngW up)
def mustL (up:Int) (sl:Pd→List Int) (ds:List Pd):List Int:=(ds.filter (mustB up sl)).map (·.pl)
theorem mustL_next {up:Int} {sl:Pd→List Int} {ds:List Pd} {k:Nat} (hk:k<ds.length):mustL up sl (ds.take (k+1))=mustL up sl (ds.take k)++(if mustB up sl (ds.getD k pdD)=true then [(ds.getD k pdD).pl] else []):=by
 unfold mustL
 rw[List.take_add_one,List.filter_append,List.map_append,List.getElem?_eq_getElem hk,List.getD_eq_getElem?_getD,List.getElem?_eq_getElem hk]
 simp only[Option.toList_some,Option.getD_some]
 congr 1
 cases h:mustB up sl ds[k]<;>simp[h]
theorem mustL_len (up:Int) (sl:Pd→List Int) (ds:List Pd):(mustL up sl ds).length≤ds.length:=by
 unfold mustL
 rw[List.length_map]
 exact List.length_filter_le _ _
set_option maxHeartbeats 8000000 in
theorem mustSee_any {w:World} {up:Int} {v:Value} {ds:List Pd} {sl:Pd→List Int} (h:PdsAt w v ds) (hs:SlicesP ds) (hl:ds.length≤1048576) (hS:SlotsP w ds sl) :
    Calls Tryz.prog 60 #[rmv up v] w fun e w'=>∃u,e = .returned u∧rows.Own w' w.heap.size u (mustL up sl ds)∧Below w.heap.size w w':=by
 obtain⟨i0,hi,hz0,hz1,hz2⟩:=info_parts info
 have HI:Hid _:=And.intro hi (And.intro hz0 (And.intro hz1 hz2))
 obtain⟨a,cap,rfl⟩:=pds_slice h
 have HP:Hid _:=h
 have HSL:Hid _:=hs
 have B0:Below w.heap.size w (w.alloc (rmb up (.slice a ds.length cap))):=(Below.refl _ _).alloc (Nat.le_refl _) _
 have HALL:Hid (∀V,Below (w.alloc (rmb up (.slice a ds.length cap))).heap.size (w.alloc (rmb up (.slice a ds.length cap))) V→(V.cell? ⟨w.heap.size,0,none⟩=some (.int .i64 up)∧V.cell? ⟨w.heap.size,1,none⟩=some (.slice a ds.length cap))∧Below w.heap.size w V):=by
  intro V hV
  have q0:V.heap[w.heap.size]? = some (rmb up (.slice a ds.length cap)):=(hV.block _ (by simp)).trans (heap_alloc_new w _)
  exact⟨(rmb_cells q0).1,B0.trans (hV.mono B0.size)⟩
 have HSP:Hid _:=hS
 have sW:w.heap.size≤(w.alloc (rmb up (.slice a ds.length cap))).heap.size:=by simp
 clear h hs B0 hS hi hz0 hz1 hz2
 go_enter Tryz.func60,Tryz.ntmps60
 go_upto_region 1 with fail
 generalize w.alloc (rmb up (.slice a ds.length cap))=X at *
 have HOO:Hid _:=own_nothing X X.heap.size (Nat.le_refl _)
 have BX:Below X.heap.size X (X.alloc (.cells #[] 2)):=(Below.refl _ _).alloc (Nat.le_refl _) _
 have HBX:Hid _:=BX
 obtain⟨⟨z0,z1⟩,_⟩:=HALL.out _ BX
 clear BX
 go_wp2_with fail
 clear z0 z1
 go_loopw [3,5,10] (fun u _ q wr=>∃(k:Nat) (u0:Value),u0=u∧k≤ds.length∧q = .int .i64 (k:Int)∧rows.Own wr X.heap.size u0 (mustL up sl (ds.take k))∧Below X.heap.size X wr) (fun _ _ q _=>ds.length-(intOf q).toNat)
 case atStart=>exact⟨0,_,rfl,Nat.zero_le _,rfl,HOO.out,HBX.out⟩
 case round=>
  obtain⟨k,u0,rfl,hk,rfl,hO,hB⟩:=hrel
  have HB:Hid _:=hB
  obtain⟨⟨z0,z1⟩,bw⟩:=HALL.out wr hB
  have HO:Hid _:=hO
  have sr:=hB.size
  by_cases hlt:k<ds.length
  ·obtain⟨b,off,ea,hbl,k0,k1,k2,k3,k4,k5,k6,k7⟩:=pds_cell (pdsAt_below HP.out bw) hlt
   subst ea
   obtain⟨sa,sn,sc,hsv⟩:=HSL.out _ (mem_getDP hlt)
   have hlt':(k:Int)<(ds.length:Int):=by omega
   have SC:=fun V hV=>HSP.out.call V hV k hlt
   have sl1:=HSP.out.len k hlt
   have sl2:=HSP.out.num k hlt
   have HN:Hid _:=mustL_next (up:=up) (sl:=sl) hlt
   obtain⟨d,hd⟩:∃d,ds.getD k pdD=d:=⟨_,rfl⟩
   rw[hd]at k0 k1 k2 k3 k4 k5 k6 k7 hsv sl1 sl2
   simp only[hd]at SC HN
   obtain⟨xs,hxs⟩:∃xs,sl d=xs:=⟨_,rfl⟩
   rw[hxs]at sl1 sl2
   simp only[hxs]at SC
   have hmb:mustB up sl d=(decide (up≤d.pl)&&xs.any (yngW up)):=by unfold mustB;rw[hxs]
   rw[hmb]at HN
   obtain⟨ds',df,dc,dh,dp,dm,du,dl⟩:=d
   simp only at k0 k1 k2 k3 k4 k5 k6 k7 hsv SC HN
   subst hsv
   clear hmb hxs hd hO hB
   have BY:Below wr.heap.size wr (wr.alloc (pdb ⟨ds',df,dc,dh,dp,dm,.slice sa sn sc,dl⟩)):=(Below.refl _ _).alloc (Nat.le_refl _) _
   have CS:=seesYoung_any (w:=wr.alloc (pdb ⟨ds',df,dc,dh,dp,dm,.slice sa sn sc,dl⟩)) (up:=up) (a:=some ⟨b,off,none⟩) (n:=ds.length) (c:=cap) (d:=⟨ds',df,dc,dh,dp,dm,.slice sa sn sc,dl⟩) (xs:=xs) ⟨_,_,_,rfl⟩ sl1 sl2 (fun V hV=>SC V (bw.trans ((BY.trans (hV.mono BY.size)).mono bw.size)))
   obtain⟨⟨p0,p1,p2,p3,p4,p5,p6,p7⟩,_⟩:=pdb_cells (heap_alloc_new wr (pdb ⟨ds',df,dc,dh,dp,dm,.slice sa sn sc,dl⟩))
   simp only at p0 p1 p2 p3 p4 p5 p6 p7
   have HBY:Hid _:=BY
   obtain⟨P,hP⟩:∃P,xs.any (yngW up)=P:=⟨_,rfl⟩
   rw[hP]at CS HN
   clear hP SC sl1 sl2 bw z0 z1 BY
   go_upto_region 5 with fail
   clear k0 k1 k2 k3 k4 k5 k6 k7
   have sY:wr.heap.size<(wr.alloc (pdb ⟨ds',df,dc,dh,dp,dm,.slice sa sn sc,dl⟩)).heap.size:=by simp
   have HY:Hid (Below X.heap.size X (wr.alloc (pdb ⟨ds',df,dc,dh,dp,dm,.slice sa sn sc,dl⟩))):=HB.out.trans (HBY.out.mono HB.out.size)
   have HOY:Hid (rows.Own (wr.alloc (pdb ⟨ds',df,dc,dh,dp,dm,.slice sa sn sc,dl⟩)) X.heap.size u0 (mustL up sl (ds.take k))):=own_below HO.out HBY.out
   obtain⟨⟨z0,z1⟩,_⟩:=HALL.out _ HY.out
   generalize wr.alloc (pdb ⟨ds',df,dc,dh,dp,dm,.slice sa sn sc,dl⟩)=Y at *
   by_cases hge:dl ≥ up
   ·have hle:up≤dl:=hge
    rw[decide_eq_true hle,Bool.true_and]at HN
    cases P
    ·rw[if_neg (by decide),List.append_nil]at HN
     go_wp2_with (go_at_call 97;refine CS.mono ?_;clear CS p0 p1 p2 p3 p4 p5 p6 p7 z0 z1;rintro e w5 ⟨rfl,b5⟩;have HB5:Hid _:=b5;clear b5)
     exact⟨⟨k+1,_,rfl,by omega,by go_num,by rw[HN.out];exact own_below HOY.out HB5.out,HY.out.trans (HB5.out.mono HY.out.size)⟩,by simp[intOf];omega⟩
    ·rw[if_pos rfl]at HN
     obtain⟨qs,hqs⟩:∃qs,mustL up sl (ds.take k)=qs:=⟨_,rfl⟩
     have hql:qs.length≤1048576:=by rw[←hqs];exact Nat.le_trans (mustL_len _ _ _) (by simp;omega)
     rw[hqs]at HN HOY
     clear hqs HO
     obtain⟨va,vcp,rfl,_,_,_,_⟩:=own_ints HOY.out
     have HSTEP:Hid (∀(w5:World),Below Y.heap.size Y w5→∀(v':Value) (w6:World),w6.ownsRow X.heap.size 2 1 v' (qs.length+1) (cellsOf qs++[.int .i64 dl])→(w5.alloc (.cells #[.int .i64 dl] 2)).grownBy w6 (Value.slice va qs.length vcp).ownBlock→(v'.ownBlock=(Value.slice va qs.length vcp).ownBlock∨v'.ownBlock=some (w5.alloc (.cells #[.int .i64 dl] 2)).heap.size)→(∃a n c,v' = .slice a n c)∧rows.Own w6 X.heap.size v' (mustL up sl (ds.take (k+1)))∧Below X.heap.size X w6):=fun w5 b5 v' w6 h1 h2 h3=>by
      obtain⟨on,gr,nb⟩:=app_int h1 h2 h3
      rw[HN.out]
      obtain⟨a',c',e',_⟩:=own_ints on
      have B5:=HY.out.trans (b5.mono HY.out.size)
      exact⟨⟨_,_,_,e'⟩,on,below_grown B5 gr (own_lt (own_below HOY.out b5)) B5.size⟩
     go_wp2_with (first
      |(go_at_call 97;refine CS.mono ?_;clear CS z0 z1;rintro e w5 ⟨rfl,b5⟩;have p7':=(b5.cell (p:=⟨wr.heap.size,7,none⟩) sY).trans p7;have HOA:Hid (rows.Own (w5.alloc (.cells #[.int .i64 dl] 2)) X.heap.size (.slice va qs.length vcp) qs):=World.ownsRow.alloc (own_below HOY.out b5) _;have hba:X.heap.size≤(w5.alloc (.cells #[.int .i64 dl] 2)).heap.size:=(by have:=b5.size;have:=HY.out.size;simp;omega);have HNW:Hid _:=one_int w5 dl;have HST5:Hid _:=HSTEP.out w5 b5;clear p0 p1 p2 p3 p4 p5 p6 p7 b5 HSTEP)
      |(refine wpList_append_own_at _ rfl (.tmp 24) (.tmp 27) 22 rfl X.heap.size 2 i0 (.int .i64 0) 1 8 Tryz.underlying22 HI.out.1 HI.out.2.1 HI.out.2.2.1 HI.out.2.2.2 rfl (by decide) (.slice va qs.length vcp) qs.length (cellsOf qs) rfl HOA.out ⟨w5.heap.size,0,none⟩ 1 1 [.int .i64 dl] rfl rfl HNW.out (by simp[Value.oneCell']) (by unfold maxLen;omega) (by omega) hba ?_;intro v' w6 hown hgrow _ hat;obtain⟨⟨va',vn',vc',rfl⟩,st⟩:=HST5.out v' w6 hown hgrow hat;have HST:Hid _:=st;clear st hown hgrow hat))
     exact⟨⟨k+1,_,rfl,by omega,by go_num,HST.out⟩,by simp[intOf];omega⟩
   ·have hle:¬up≤dl:=hge
    rw[decide_eq_false hle,Bool.false_and,if_neg (by decide),List.append_nil]at HN
    clear CS
    go_wp2
    exact⟨⟨k+1,_,rfl,by omega,by go_num,by rw[HN.out];exact HOY.out,HY.out⟩,by simp[intOf];omega⟩
  ·have e:k=ds.length:=by omega
   subst e
   rw[List.take_length]at hO
   have HF:Hid _:=hO
   have HBW:Hid _:=bw
   have hlt':¬(ds.length:Int)<(ds.length:Int):=by omega
   clear hO hB bw z0 z1
   go_wp2
   go_ret
   exact⟨_,rfl,own_base HF.out sW,HBW.out⟩
theorem numB_bad (H:Hp):hbad H=false↔(numB H=true∧H.roots.length=6∧H.mourned.length≤40):=by
 unfold numB sideB evn hbad hb8 hb7 hb6 hb5 hb4 hb3 hb2 hb1 hb0
 simp only[inR,Bool.or_eq_false_iff,Bool.not_eq_false',Bool.and_eq_true,Bool.or_eq_true,decide_eq_true_eq,beq_iff_eq,bne_eq_false_iff_eq,decide_eq_false_iff_not]
 omega
theorem num_parts {H:Hp} (hn:numB H=true):∃half old top fr:Nat,H.half=half∧H.old=old∧H.top=top∧frO H=fr∧hf H=half∧od H=old∧tp H=top∧bs H=fr∧fr+top≤2*half∧H.row.length=2*half+old∧half≤200∧old≤400:=by
 obtain⟨N⟩:=numN hn
 refine⟨N.half,N.old,N.top,N.fr,N.eh,N.eo,N.et,N.ef,?_,?_,?_,?_,N.lt,N.ln,N.bh,N.bo⟩
 ·unfold hf;rw[N.eh];simp
 ·unfold od;rw[N.eo];simp
 ·unfold tp;rw[N.et];simp
 ·have:=N.ef
  unfold frO at this
  unfold bs;rw[this];simp
theorem walkR_room {H:Hp} (hn:numB H=true):walkR H.row (frO H) (toO H)=roomW H∧walkR H.row (2*H.half) (2*H.half+H.old)=upW H:=by
 obtain⟨half,old,top,fr,e1,e2,e3,e4,e5,e6,e7,e8,h1,h2,h3,h4⟩:=num_parts hn
 have et:toO H=(fr:Int)+top:=by have:toO H=frO H+H.top:=rfl;rw[this,e4,e3]
 constructor
 ·unfold walkR
  rw[if_pos]
  ·unfold roomW
   rw[e8,e7,et,e4]
   congr 1
  ·simp only[rangeOk,rowOk,Bool.and_eq_true,decide_eq_true_eq]
   rw[et,e4]
   omega
 ·unfold walkR
  rw[if_pos]
  ·unfold upW
   rw[e5,e6,e1,e2]
   congr 1
  ·simp only[rangeOk,rowOk,Bool.and_eq_true,decide_eq_true_eq]
   rw[e1,e2]
   omega
theorem up_room (a:Option Addr) (H:Hp) (r:List Int):((pdsOf a H.row r).any upOnly) = !(r.all (roomOk H)):=by
 unfold pdsOf
 induction r with
 |nil=>rfl
 |cons x r ih=>
  simp only[List.map_cons,List.any_cons,List.all_cons,ih]
  have:upOnly (pdOf a H.row x.toNat) = !(roomOk H x):=by
   show ((uF (H.row.getD x.toNat 0)==6) || uP (H.row.getD x.toNat 0)) = !(!(uF (H.row.getD x.toNat 0)==6) && !(uP (H.row.getD x.toNat 0)))
   cases (uF (H.row.getD x.toNat 0)==6)<;>cases uP (H.row.getD x.toNat 0)<;>rfl
  rw[this]
  cases roomOk H x<;>cases r.all (roomOk H)<;>rfl
theorem all_zero_iff (xs:List Int):xs.all (· == 0)=true↔∀i,i<xs.length→xs.getD i 0=0:=by
 rw[List.all_eq_true]
 constructor
 ·intro h i hi
  have:=h xs[i] (List.getElem_mem hi)
  rw[List.getD_eq_getElem?_getD,List.getElem?_eq_getElem hi]
  simpa using this
 ·intro h x hx
  obtain⟨i,hi,rfl⟩:=List.getElem_of_mem hx
  have:=h i hi
  rw[List.getD_eq_getElem?_getD,List.getElem?_eq_getElem hi]at this
  simpa using this
theorem zeros_same {H:Hp} (hn:numB H=true):zerosO H=zeroB H:=by
 obtain⟨half,old,top,fr,e1,e2,e3,e4,e5,e6,e7,e8,h1,h2,h3,h4⟩:=num_parts hn
 have et:toO H=(fr:Int)+top:=by have:toO H=frO H+H.top:=rfl;rw[this,e4,e3]
 have key:zerosO H=true↔zeroB H=true:=by
  unfold zerosO zeroB
  rw[Bool.and_eq_true,all_zero_iff,all_zero_iff,List.all_eq_true,et,e4,e1,e5]
  have q1:((fr:Int)).toNat=fr:=by omega
  have q2:((fr:Int)+top).toNat=fr+top:=by omega
  have q3:(2*(half:Int)-((fr:Int)+top)).toNat=2*half-(fr+top):=by omega
  rw[q1,q2,q3]
  constructor
  ·rintro⟨a1,a2⟩ i hi
   rw[List.mem_range]at hi
   unfold zeroAt
   rw[e8,e7]
   by_cases c1:i<fr
   ·have:=a1 i (by rw[List.length_take];omega)
    rw[List.getD_eq_getElem?_getD,List.getElem?_take,if_pos c1,←List.getD_eq_getElem?_getD]at this
    rw[this];simp
   ·by_cases c2:fr+top≤i
    ·have:=a2 (i-(fr+top)) (by rw[List.length_take,List.length_drop];omega)
     rw[List.getD_eq_getElem?_getD,List.getElem?_take,if_pos (by omega),List.getElem?_drop,show fr+top+(i-(fr+top))=i by omega,←List.getD_eq_getElem?_getD]at this
     rw[this];simp
    ·simp[c1,c2]
  ·intro h
   have g:∀i,i<2*half→(i<fr∨fr+top≤i)→H.row.getD i 0=0:=by
    intro i hi hc
    have:=h i (List.mem_range.2 hi)
    unfold zeroAt at this
    rw[e8,e7]at this
    simp only[Bool.or_eq_true,Bool.not_eq_true',Bool.or_eq_false_iff,decide_eq_false_iff_not,beq_iff_eq]at this
    rcases this with t|t
    ·omega
    ·exact t
   constructor
   ·intro i hi
    rw[List.length_take]at hi
    rw[List.getD_eq_getElem?_getD,List.getElem?_take,if_pos (by omega),←List.getD_eq_getElem?_getD]
    exact g i (by omega) (by omega)
   ·intro i hi
    rw[List.length_take,List.length_drop]at hi
    rw[List.getD_eq_getElem?_getD,List.getElem?_take,if_pos (by omega),List.getElem?_drop,←List.getD_eq_getElem?_getD]
    exact g _ (by omega) (by omega)
 cases h1:zerosO H<;>cases h2:zeroB H<;>simp_all
theorem room_some {a:Option Addr} {H:Hp} (hn:numB H=true) (hr:roomB a H=true):∃r u,roomW H=some r∧upW H=some u∧placesB H=some (r++u)∧objsP a H=pdsOf a H.row r++keepP (pdsOf a H.row u):=by
 obtain⟨w1,w2⟩:=walkR_room hn
 unfold roomB lowP walkOk walked at hr
 unfold objsP lowP highP walked
 rw[w1,w2,zeros_same hn,up_room]at hr
 rw[w1,w2]
 simp only[Bool.and_eq_true,Bool.not_not]at hr
 obtain⟨⟨⟨a1,a2⟩,a3⟩,a4⟩:=hr
 obtain⟨r,e1⟩:=Option.isSome_iff_exists.1 a1
 obtain⟨u,e2⟩:=Option.isSome_iff_exists.1 a4
 rw[e1]at a2
 refine⟨r,u,e1,e2,placesB_yes a3 e1 e2 a2,?_⟩
 rw[e1,e2];rfl
theorem room_none {a:Option Addr} {H:Hp} (hn:numB H=true) (hr:roomB a H=false):placesB H=none:=by
 obtain⟨w1,w2⟩:=walkR_room hn
 unfold roomB lowP walkOk walked at hr
 rw[w1,w2,zeros_same hn,up_room]at hr
 cases e1:roomW H with
 |none=>exact placesB_room e1
 |some r=>
  cases e2:upW H with
  |none=>exact placesB_up e2
  |some u=>
   cases e3:zeroB H
   ·exact placesB_zero e3
   ·rw[e1,e2,e3]at hr
    refine placesB_no e1 ?_
    simpa using hr
theorem pdOf_pl (a:Option Addr) (xs:List Int) (j:Nat):(pdOf a xs j).pl=j:=rfl
structure Rooms (a:Option Addr) (H:Hp) (ps:List Int) (ds:List Pd):Prop where
 plc:∀p ∈ ps,∃j:Nat,p=j∧j<H.row.length∧chunk H.row j≠0
 ofD:∀d ∈ ds,∃j:Nat,d=pdOf a H.row j∧(j:Int) ∈ ps∧uF (H.row.getD j 0)≠6
 ofP:∀j:Nat,(j:Int) ∈ ps→uF (H.row.getD j 0)≠6→pdOf a H.row j ∈ ds
theorem rooms_of {a:Option Addr} {H:Hp} {ps:List Int} (hn:numB H=true) (hr:roomB a H=true) (h2:placesB H=some ps) (h3:placesR H=some ps):Rooms a H ps (objsP a H):=by
 obtain⟨r,u,e1,e2,e3,e4⟩:=room_some hn hr
 rw[e3]at h2
 cases h2
 have hp:=(places_plc h3).1
 refine⟨hp,fun d hd => ?_,fun j hj h6 => ?_⟩
 ·obtain⟨j,rfl,_,h6⟩:=objs_in hr d hd
  refine⟨j,rfl,?_,h6⟩
  rw[e4]at hd
  rcases List.mem_append.1 hd with hd|hd
  ·obtain⟨x,hx,e⟩:=List.mem_map.1 hd
   obtain⟨k,ek,_⟩:=hp x (List.mem_append.2 (.inl hx))
   have:=congrArg Pd.pl e
   rw[ek]at this hx
   simp only[pdOf_pl,Int.toNat_natCast]at this
   rw[←this]
   exact List.mem_append.2 (.inl hx)
  ·obtain⟨x,hx,e⟩:=List.mem_map.1 (List.mem_filter.1 hd).1
   obtain⟨k,ek,_⟩:=hp x (List.mem_append.2 (.inr hx))
   have:=congrArg Pd.pl e
   rw[ek]at this hx
   simp only[pdOf_pl,Int.toNat_natCast]at this
   rw[←this]
   exact List.mem_append.2 (.inr hx)
 ·rw[e4]
  rcases List.mem_append.1 hj with hj|hj
  ·exact List.mem_append.2 (.inl (List.mem_map.2 ⟨_,hj,by simp⟩))
  ·refine List.mem_append.2 (.inr (List.mem_filter.2 ⟨List.mem_map.2 ⟨_,hj,by simp⟩,?_⟩))
   show (!(uF (H.row.getD j 0)==6))=true
   simpa using h6
section
variable {a:Option Addr} {H:Hp} {ps:List Int} {ds:List Pd}
theorem Rooms.has (h:Rooms a H ps ds) (x:Int):hasP ds x=(decide (x ∈ ps) && !(uF (H.row.getD x.toNat 0)==6)):=by
 have key:hasP ds x=true↔(x ∈ ps∧uF (H.row.getD x.toNat 0)≠6):=by
  unfold hasP
  rw[List.any_eq_true]
  constructor
  ·rintro⟨d,hd,e⟩
   obtain⟨j,rfl,hj,h6⟩:=h.ofD d hd
   have e':(j:Int)=x:=by simpa [pdOf_pl] using e
   subst e'
   exact⟨hj,by simpa using h6⟩
  ·rintro⟨hx,h6⟩
   obtain⟨j,rfl,_,_⟩:=h.plc x hx
   exact⟨_,h.ofP j hx (by simpa using h6),by simp[pdOf_pl]⟩
 cases e:hasP ds x
 ·symm
  rw[Bool.and_eq_false_iff]
  by_cases hx:x ∈ ps
  ·right
   have:¬(uF (H.row.getD x.toNat 0)≠6):=fun h6=>by rw[key.2 ⟨hx,h6⟩]at e;cases e
   simpa using this
  ·left;simpa using hx
 ·obtain⟨a1,a2⟩:=key.1 e
  rw[decide_eq_true a1]
  simpa using a2
theorem Rooms.word (h:Rooms a H ps ds) (x:Int):holdW ds x=wordIn H ps x:=by
 unfold holdW wordIn
 cases e:isA x
 ·simp
 ·have:isW x=true:=by unfold isW;rw[e];simp
  rw[this,h.has];simp
theorem Rooms.list (h:Rooms a H ps ds) (xs:List Int):holdL ds xs=xs.all (wordIn H ps):=by
 unfold holdL
 congr 1
 funext x
 exact h.word x
theorem slP_of (a:Option Addr) (H:Hp) (j:Nat) (h6:uF (H.row.getD j 0)≠6):slP H.row (pdOf a H.row j)=slotsOf H j:=by
 unfold slP slotsOf
 rw[cnP_of,pdOf_pl,Int.toNat_natCast]
 congr 1
 unfold cnS
 by_cases h7:uF (H.row.getD j 0)=7
 ·rw[if_pos h7,if_pos h7];rfl
 ·rw[if_neg h7,if_neg h7,if_neg h6]
theorem slots_free {H:Hp} {p:Int} (h6:uF (H.row.getD p.toNat 0)=6):slotsOf H p=[]:=by
 unfold slotsOf cnS
 rw[if_neg (by omega),if_pos h6];simp
theorem Rooms.slots (h:Rooms a H ps ds):holdS ds (slP H.row)=slotsOk H ps:=by
 have key:holdS ds (slP H.row)=true↔slotsOk H ps=true:=by
  unfold holdS slotsOk
  rw[List.all_eq_true,List.all_eq_true]
  constructor
  ·intro g p hp
   obtain⟨j,rfl,_,_⟩:=h.plc p hp
   by_cases h6:uF (H.row.getD j 0)=6
   ·rw[slots_free (by simpa using h6)];rfl
   ·have:=g _ (h.ofP j hp h6)
    rwa [h.list,slP_of a H j h6]at this
  ·intro g d hd
   obtain⟨j,rfl,hj,h6⟩:=h.ofD d hd
   rw[h.list,slP_of a H j h6]
   exact g _ hj
 cases e1:holdS ds (slP H.row)<;>cases e2:slotsOk H ps<;>simp_all
end
def ntH (H:Hp) (p:Int):Bool:=uF (H.row.getD p.toNat 0)==7
def nxH (H:Hp) (p:Int):Int:=av (H.row.getD (p.toNat+1) 0)
theorem endsL_is (H:Hp):∀(n:Nat) (p:Int),endsL H n p=ends (ntH H) (nxH H) n p
 |0,_=>rfl
 |n+1,p=>by
  unfold endsL ends ntH
  by_cases h:uF (H.row.getD p.toNat 0)=7
  ·rw[if_pos h,if_pos (by simpa using h),endsL_is H n];rfl
  ·rw[if_neg h,if_neg (by simpa using h)]
theorem notes_next {H:Hp} {ps:List Int} (hN:Notes H ps):∀p ∈ ps,ntH H p=true→nxH H p ∈ ps:=fun p hp h=>(hN p hp (by simpa [ntH] using h)).2.2
theorem endsOk_is {H:Hp} {ps:List Int} (hN:Notes H ps):endsOk H ps=true↔∀p ∈ ps,Fins (ntH H) (nxH H) p:=by
 unfold endsOk
 rw[List.all_eq_true]
 constructor
 ·intro h p hp
  have:=h p hp
  rw[endsL_is]at this
  exact⟨_,this⟩
 ·intro h p hp
  rw[endsL_is]
  exact (fins_iff (notes_next hN) hp (by omega)).2 (h p hp)
theorem Rooms.ends {a:Option Addr} {H:Hp} {ps:List Int} {ds:List Pd} (h:Rooms a H ps ds) (hN:Notes H ps):endsOk H ps=true↔∀i,i<ds.length→Fins (ntH H) (nxH H) (ds.getD i pdD).pl:=by
 rw[endsOk_is hN]
 constructor
 ·intro g i hi
  obtain⟨j,e,hj,_⟩:=h.ofD _ (mem_getDP hi)
  rw[e,pdOf_pl]
  exact g _ hj
 ·intro g p hp
  obtain⟨j,rfl,_,_⟩:=h.plc p hp
  by_cases h6:uF (H.row.getD j 0)=6
  ·refine fins_stop ?_
   unfold ntH
   rw[Int.toNat_natCast,h6];rfl
  ·obtain⟨i,hi,e⟩:=List.getElem_of_mem (h.ofP j hp h6)
   have:=g i hi
   rw[List.getD_eq_getElem?_getD,List.getElem?_eq_getElem hi]at this
   simp only[Option.getD_some]at this
   rw[e,pdOf_pl]at this
   exact this
theorem seen_low {up:Int} {sl:Pd→List Int} {ds:List Pd} (h:∀d ∈ ds,d.pl<up):mustL up sl ds=[]:=by
 unfold mustL
 rw[List.map_eq_nil_iff,List.filter_eq_nil_iff]
 intro d hd e
 have:=h d hd
 simp only[mustB,Bool.and_eq_true,decide_eq_true_eq]at e
 omega
theorem mustL_app (up:Int) (sl:Pd→List Int) (ds es:List Pd):mustL up sl (ds++es)=mustL up sl ds++mustL up sl es:=by
 unfold mustL
 rw[List.filter_append,List.map_append]
theorem seen_high (a:Option Addr) (H:Hp):∀u:List Int,(∀p ∈ u,∃j:Nat,p=j∧2*H.half≤(j:Int))→mustL (2*H.half) (slP H.row) (keepP (pdsOf a H.row u))=u.filter (fun p=>(slotsOf H p).any (youngB H))
 | [],_=>rfl
 |p :: u,h=>by
  have ih:=seen_high a H u (fun q hq=>h q (List.mem_cons_of_mem _ hq))
  obtain⟨j,rfl,hj⟩:=h p (List.mem_cons_self ..)
  have e0:pdsOf a H.row ((j:Int) :: u)=pdOf a H.row j :: pdsOf a H.row u:=by unfold pdsOf;simp
  rw[e0]
  by_cases h6:uF (H.row.getD j 0)=6
  ·have e1:keepP (pdOf a H.row j :: pdsOf a H.row u)=keepP (pdsOf a H.row u):=by
     unfold keepP
     rw[List.filter_cons_of_neg]
     show ¬(!(uF (H.row.getD j 0)==6))=true
     rw[h6];decide
   rw[e1,ih,List.filter_cons_of_neg]
   rw[slots_free (by simpa using h6)];simp
  ·have e1:keepP (pdOf a H.row j :: pdsOf a H.row u)=pdOf a H.row j :: keepP (pdsOf a H.row u):=by
     unfold keepP
     rw[List.filter_cons_of_pos]
     show (!(uF (H.row.getD j 0)==6))=true
     simpa using h6
   have e2:mustB (2*H.half) (slP H.row) (pdOf a H.row j)=(slotsOf H j).any (youngB H):=by
    unfold mustB
    rw[pdOf_pl,decide_eq_true hj,Bool.true_and,slP_of a H j h6];rfl
   rw[e1]
   unfold mustL at ih ⊢
   cases e3:(slotsOf H j).any (youngB H)
   ·rw[List.filter_cons_of_neg (by rw[e2,e3];decide),List.filter_cons_of_neg (by rw[e3];decide)];exact ih
   ·rw[List.filter_cons_of_pos (by rw[e2];exact e3),List.filter_cons_of_pos (by exact e3),List.map_cons,ih,pdOf_pl]
theorem seen_same {a:Option Addr} {H:Hp} (hn:numB H=true) (hr:roomB a H=true):mustL (2*H.half) (slP H.row) (objsP a H)=seenL H:=by
 obtain⟨r,u,e1,e2,e3,e4⟩:=room_some hn hr
 obtain⟨half,old,top,fr,q1,q2,q3,q4,q5,q6,q7,q8,h1,h2,h3,h4⟩:=num_parts hn
 have m1:∀p ∈ r,∃j:Nat,p=j∧j<2*half:=fun p hp=>by
  obtain⟨j,e,_,b,_⟩:=walkO_mem (by rw[q8,q7];omega) e1 hp
  rw[q8,q7]at b
  exact⟨j,e,by omega⟩
 have m2:∀p ∈ u,∃j:Nat,p=j∧2*H.half≤(j:Int):=fun p hp=>by
  obtain⟨j,e,b,_,_⟩:=walkO_mem (by rw[q5,q6];omega) e2 hp
  rw[q5]at b
  exact⟨j,e,by rw[q1];omega⟩
 rw[e4,mustL_app,seen_high a H u m2,seen_low,List.nil_append]
 ·unfold seenL;rw[e2];rfl
 ·intro d hd
  obtain⟨p,hp,rfl⟩:=List.mem_map.1 hd
  obtain⟨j,rfl,hj⟩:=m1 p hp
  rw[Int.toNat_natCast,pdOf_pl,q1];omega
def lstB (H:Hp) (ds:List Pd):Bool:=(decide (H.roots.length=6)&&decide (H.mourned.length≤40))&&(H.mourned.all isA&&holdL ds H.roots&&holdL ds H.mourned)
def openB (a:Option Addr) (H:Hp):Bool:=numB H&&(roomB a H&&holdS (objsP a H) (slP H.row)&&endsOk H ((objsP a H).map (·.pl))&&lstB H (objsP a H))
theorem mourn_all (f g:Int→Bool) (xs:List Int):xs.all (fun x=>f x&&g x)=(xs.all f&&xs.all g):=by
 induction xs with
 |nil=>rfl
 |cons x xs ih=>
  simp only[List.all_cons,ih]
  cases f x<;>cases g x<;>cases xs.all f<;>cases xs.all g<;>rfl
theorem rooms_notes {a:Option Addr} {H:Hp} {ps:List Int} {ds:List Pd} (h:Rooms a H ps ds) (hN:Notes H ps) (hs:slotsOk H ps=true):Notes H (ds.map (·.pl)):=by
 intro p hp h7
 obtain⟨d,hd,rfl⟩:=List.mem_map.1 hp
 obtain⟨j,rfl,hj,h6⟩:=h.ofD d hd
 rw[pdOf_pl]at h7 ⊢
 obtain⟨n1,n2,n3⟩:=hN _ hj h7
 refine⟨n1,n2,?_⟩
 rw[Int.toNat_natCast]at n1 n2 n3 h7 ⊢
 have hw:wordIn H ps (H.row.getD (j+1) 0)=true:=by
  unfold slotsOk at hs
  rw[List.all_eq_true]at hs
  have:=hs _ hj
  rw[List.all_eq_true]at this
  refine this _ ?_
  unfold slotsOf cnS
  rw[Int.toNat_natCast,if_pos h7,List.mem_iff_getElem?]
  refine⟨0,?_⟩
  rw[List.getElem?_take,if_pos (by decide),List.getElem?_drop,Nat.add_zero,List.getElem?_eq_getElem n1,List.getD_eq_getElem?_getD,List.getElem?_eq_getElem n1];rfl
 rw[←h.word]at hw
 unfold holdW at hw
 rw[n2,if_pos rfl]at hw
 unfold hasP at hw
 rw[List.any_eq_true]at hw
 obtain⟨d,hd,e⟩:=hw
 exact List.mem_map.2 ⟨d,hd,by simpa using e⟩
theorem openB_is (a:Option Addr) (H:Hp):openB a H=rightB H:=by
 unfold openB
 cases hn:numB H
 ·rw[Bool.false_and]
  unfold rightB placesR
  have:hbad H=true:=by
   cases e:hbad H
   ·have:=(numB_bad H).1 e
    rw[hn]at this;cases this.1
   ·rfl
  rw[if_pos this]
 rw[Bool.true_and]
 cases hr:roomB a H
 ·rw[Bool.false_and,Bool.false_and,Bool.false_and]
  unfold rightB placesR
  rw[room_none hn hr]
  split<;>simp_all
 rw[Bool.true_and]
 obtain⟨r,u,e1,e2,e3,e4⟩:=room_some hn hr
 by_cases hl:H.roots.length=6∧H.mourned.length≤40
 ·have hb:hbad H=false:=(numB_bad H).2 ⟨hn,hl⟩
  have hR:placesR H=some (r++u):=by unfold placesR;rw[if_neg (by rw[hb];decide),e3]
  have RM:=rooms_of hn hr e3 hR
  unfold rightB
  rw[hR]
  simp only
  rw[RM.slots]
  cases hs:slotsOk H (r++u)
  ·rfl
  ·have hN:=notes_of RM.plc hs
   have hE:endsOk H ((objsP a H).map (·.pl))=endsOk H (r++u):=by
    have k1:=RM.ends hN
    have k2:=endsOk_is (rooms_notes RM hN hs)
    have key:endsOk H ((objsP a H).map (·.pl))=true↔endsOk H (r++u)=true:=by
     rw[k1,k2]
     constructor
     ·intro g i hi
      exact g _ (List.mem_map.2 ⟨_,mem_getDP hi,rfl⟩)
     ·intro g p hp
      obtain⟨d,hd,rfl⟩:=List.mem_map.1 hp
      obtain⟨i,hi,rfl⟩:=List.getElem_of_mem hd
      have:=g i hi
      rwa [List.getD_eq_getElem?_getD,List.getElem?_eq_getElem hi]at this
    cases q1:endsOk H ((objsP a H).map (·.pl))
    ·cases q2:endsOk H (r++u)
     ·rfl
     ·rw[key.2 q2]at q1;cases q1
    ·exact (key.1 q1).symm
   rw[hE]
   unfold lstB mournOk
   rw[decide_eq_true hl.1,decide_eq_true hl.2,RM.list,RM.list,mourn_all]
   cases endsOk H (r++u)<;>cases H.mourned.all isA<;>cases H.roots.all (wordIn H (r++u))<;>cases H.mourned.all (wordIn H (r++u))<;>rfl
 ·have hb:hbad H=true:=by
    cases e:hbad H
    ·exact absurd ((numB_bad H).1 e).2 hl
    ·rfl
  have hR:placesR H=none:=by unfold placesR;rw[if_pos hb]
  unfold rightB
  rw[hR]
  have:lstB H (objsP a H)=false:=by
   unfold lstB
   rw[Bool.and_eq_false_iff]
   left
   rw[Bool.and_eq_false_iff]
   by_cases q:H.roots.length=6
   ·right;exact decide_eq_false (fun q2=>hl ⟨q,q2⟩)
   ·left;exact decide_eq_false q
  rw[this,Bool.and_false]
def okB (a:Option Addr) (H:Hp):Bool:=openB a H&&decide (H.seen=mustL (2*H.half) (slP H.row) (objsP a H))
theorem openB_parts {a:Option Addr} {H:Hp} (h:openB a H=true):numB H=true∧roomB a H=true∧holdS (objsP a H) (slP H.row)=true∧endsOk H ((objsP a H).map (·.pl))=true∧lstB H (objsP a H)=true:=by
 unfold openB at h
 simp only[Bool.and_eq_true]at h
 exact⟨h.1,h.2.1.1.1,h.2.1.1.2,h.2.1.2,h.2.2⟩
theorem okB_is (a:Option Addr) (H:Hp):okB a H=heapOk H:=by
 unfold okB heapOk
 cases e:openB a H
 ·rw[←openB_is a H,e];rfl
 ·obtain⟨hn,hr,_⟩:=openB_parts e
  rw[←openB_is a H,e,seen_same hn hr]
end Go.Proofs.YtemlagfaaibenaaGreat.hp
