/-
  Chapter 9: what the program asks of a heap is what the document asks. Chapter 9 as the specification has it: what must be seen, and which heaps are right. Chapter 9 as the specification has it: HeapOk and Young. Chapter 10 as lists: what a word leads to, notes followed.
-/
import Derived.Test.YtocidankimefpaaGreatDoorM19
import Derived.Test.YtocidankimefpaaGreatDoorM1
import Derived.Test.YtocidankimefpaaGreatDoorM17
import Derived.Test.YtocidankimefpaaGreatDoorHeapS6
import Derived.Test.YtocidankimefpaaGreatDoorHeapP
import Derived.Lib.Hide
import Derived.Test.YtocidankimefpaaGreatDoorM8
namespace Go.Proofs.YtocidankimefpaaGreatDoor.hp
open Go.RowKit rows heads words walks
set_option maxRecDepth 100000
set_option linter.unusedVariables false
set_option linter.unusedSimpArgs false
theorem numB_bad (H:Hp):hbad H=false↔(numB H=true∧H.roots.length=6∧H.mourned.length≤40):=by
 unfold numB sideB evn hbad hb8 hb7 hb6 hb5 hb4 hb3 hb2 hb1 hb0
 simp only[inR,Bool.or_eq_false_iff,Bool.not_eq_false',Bool.and_eq_true,Bool.or_eq_true,decide_eq_true_eq,beq_iff_eq,bne_eq_false_iff_eq,decide_eq_false_iff_not]
 omega
theorem num_parts {H:Hp} (hn:numB H=true):∃half old top fr:Nat,H.half=half∧H.old=old∧H.top=top∧frO H=fr∧hf H=half∧od H=old∧tp H=top∧bs H=fr∧fr+top≤2*half∧H.row.length=2*half+old∧half≤200∧old≤400:=by
 obtain⟨N⟩:=numN hn
 refine⟨N.half,N.old,N.top,N.fr,N.eh,N.eo,N.et,N.ef,?_,?_,?_,?_,N.lt,N.ln,N.bh,N.bo⟩
 ·unfold hf;rw[N.eh];simp
 ·unfold od;rw[N.eo];simp
 ·unfold tp;rw[N.et];simp
 ·have:=N.ef
  unfold frO at this
  unfold bs;rw[this];simp
theorem walkR_room {H:Hp} (hn:numB H=true):walkR H.row (frO H) (toO H)=roomW H∧walkR H.row (2*H.half) (2*H.half+H.old)=upW H:=by
 obtain⟨half,old,top,fr,e1,e2,e3,e4,e5,e6,e7,e8,h1,h2,h3,h4⟩:=num_parts hn
 have et:toO H=(fr:Int)+top:=by have:toO H=frO H+H.top:=rfl;rw[this,e4,e3]
 constructor
 ·unfold walkR
  rw[if_pos]
  ·unfold roomW
   rw[e8,e7,et,e4]
   congr 1
  ·simp only[rangeOk,rowOk,Bool.and_eq_true,decide_eq_true_eq]
   rw[et,e4]
   omega
 ·unfold walkR
  rw[if_pos]
  ·unfold upW
   rw[e5,e6,e1,e2]
   congr 1
  ·simp only[rangeOk,rowOk,Bool.and_eq_true,decide_eq_true_eq]
   rw[e1,e2]
   omega
theorem up_room (a:Option Addr) (H:Hp) (r:List Int):((pdsOf a H.row r).any upOnly) = !(r.all (roomOk H)):=by
 unfold pdsOf
 induction r with
 |nil=>rfl
 |cons x r ih=>
  simp only[List.map_cons,List.any_cons,List.all_cons,ih]
  have:upOnly (pdOf a H.row x.toNat) = !(roomOk H x):=by
   show ((uF (H.row.getD x.toNat 0)==6) || uP (H.row.getD x.toNat 0)) = !(!(uF (H.row.getD x.toNat 0)==6) && !(uP (H.row.getD x.toNat 0)))
   cases (uF (H.row.getD x.toNat 0)==6)<;>cases uP (H.row.getD x.toNat 0)<;>rfl
  rw[this]
  cases roomOk H x<;>cases r.all (roomOk H)<;>rfl
theorem all_zero_iff (xs:List Int):xs.all (· == 0)=true↔∀i,i<xs.length→xs.getD i 0=0:=by
 rw[List.all_eq_true]
 constructor
 ·intro h i hi
  have:=h xs[i] (List.getElem_mem hi)
  rw[List.getD_eq_getElem?_getD,List.getElem?_eq_getElem hi]
  simpa using this
 ·intro h x hx
  obtain⟨i,hi,rfl⟩:=List.getElem_of_mem hx
  have:=h i hi
  rw[List.getD_eq_getElem?_getD,List.getElem?_eq_getElem hi]at this
  simpa using this
theorem zeros_same {H:Hp} (hn:numB H=true):zerosO H=zeroB H:=by
 obtain⟨half,old,top,fr,e1,e2,e3,e4,e5,e6,e7,e8,h1,h2,h3,h4⟩:=num_parts hn
 have et:toO H=(fr:Int)+top:=by have:toO H=frO H+H.top:=rfl;rw[this,e4,e3]
 have key:zerosO H=true↔zeroB H=true:=by
  unfold zerosO zeroB
  rw[Bool.and_eq_true,all_zero_iff,all_zero_iff,List.all_eq_true,et,e4,e1,e5]
  have q1:((fr:Int)).toNat=fr:=by omega
  have q2:((fr:Int)+top).toNat=fr+top:=by omega
  have q3:(2*(half:Int)-((fr:Int)+top)).toNat=2*half-(fr+top):=by omega
  rw[q1,q2,q3]
  constructor
  ·rintro⟨a1,a2⟩ i hi
   rw[List.mem_range]at hi
   unfold zeroAt
   rw[e8,e7]
   by_cases c1:i<fr
   ·have:=a1 i (by rw[List.length_take];omega)
    rw[List.getD_eq_getElem?_getD,List.getElem?_take,if_pos c1,←List.getD_eq_getElem?_getD]at this
    rw[this];simp
   ·by_cases c2:fr+top≤i
    ·have:=a2 (i-(fr+top)) (by rw[List.length_take,List.length_drop];omega)
     rw[List.getD_eq_getElem?_getD,List.getElem?_take,if_pos (by omega),List.getElem?_drop,show fr+top+(i-(fr+top))=i by omega,←List.getD_eq_getElem?_getD]at this
     rw[this];simp
    ·simp[c1,c2]
  ·intro h
   have g:∀i,i<2*half→(i<fr∨fr+top≤i)→H.row.getD i 0=0:=by
    intro i hi hc
    have:=h i (List.mem_range.2 hi)
    unfold zeroAt at this
    rw[e8,e7]at this
    simp only[Bool.or_eq_true,Bool.not_eq_true',Bool.or_eq_false_iff,decide_eq_false_iff_not,beq_iff_eq]at this
    rcases this with t|t
    ·omega
    ·exact t
   constructor
   ·intro i hi
    rw[List.length_take]at hi
    rw[List.getD_eq_getElem?_getD,List.getElem?_take,if_pos (by omega),←List.getD_eq_getElem?_getD]
    exact g i (by omega) (by omega)
   ·intro i hi
    rw[List.length_take,List.length_drop]at hi
    rw[List.getD_eq_getElem?_getD,List.getElem?_take,if_pos (by omega),List.getElem?_drop,←List.getD_eq_getElem?_getD]
    exact g _ (by omega) (by omega)
 cases h1:zerosO H<;>cases h2:zeroB H<;>simp_all
theorem room_some {a:Option Addr} {H:Hp} (hn:numB H=true) (hr:roomB a H=true):∃r u,roomW H=some r∧upW H=some u∧placesB H=some (r++u)∧objsP a H=pdsOf a H.row r++keepP (pdsOf a H.row u):=by
 obtain⟨w1,w2⟩:=walkR_room hn
 unfold roomB lowP walkOk walked at hr
 unfold objsP lowP highP walked
 rw[w1,w2,zeros_same hn,up_room]at hr
 rw[w1,w2]
 simp only[Bool.and_eq_true,Bool.not_not]at hr
 obtain⟨⟨⟨a1,a2⟩,a3⟩,a4⟩:=hr
 obtain⟨r,e1⟩:=Option.isSome_iff_exists.1 a1
 obtain⟨u,e2⟩:=Option.isSome_iff_exists.1 a4
 rw[e1]at a2
 refine⟨r,u,e1,e2,placesB_yes a3 e1 e2 a2,?_⟩
 rw[e1,e2];rfl
theorem room_none {a:Option Addr} {H:Hp} (hn:numB H=true) (hr:roomB a H=false):placesB H=none:=by
 obtain⟨w1,w2⟩:=walkR_room hn
 unfold roomB lowP walkOk walked at hr
 rw[w1,w2,zeros_same hn,up_room]at hr
 cases e1:roomW H with
 |none=>exact placesB_room e1
 |some r=>
  cases e2:upW H with
  |none=>exact placesB_up e2
  |some u=>
   cases e3:zeroB H
   ·exact placesB_zero e3
   ·rw[e1,e2,e3]at hr
    refine placesB_no e1 ?_
    simpa using hr
theorem pdOf_pl (a:Option Addr) (xs:List Int) (j:Nat):(pdOf a xs j).pl=j:=rfl
structure Rooms (a:Option Addr) (H:Hp) (ps:List Int) (ds:List Pd):Prop where
 plc:∀p ∈ ps,∃j:Nat,p=j∧j<H.row.length∧chunk H.row j≠0
 ofD:∀d ∈ ds,∃j:Nat,d=pdOf a H.row j∧(j:Int) ∈ ps∧uF (H.row.getD j 0)≠6
 ofP:∀j:Nat,(j:Int) ∈ ps→uF (H.row.getD j 0)≠6→pdOf a H.row j ∈ ds
theorem rooms_of {a:Option Addr} {H:Hp} {ps:List Int} (hn:numB H=true) (hr:roomB a H=true) (h2:placesB H=some ps) (h3:placesR H=some ps):Rooms a H ps (objsP a H):=by
 obtain⟨r,u,e1,e2,e3,e4⟩:=room_some hn hr
 rw[e3]at h2
 cases h2
 have hp:=(places_plc h3).1
 refine⟨hp,fun d hd => ?_,fun j hj h6 => ?_⟩
 ·obtain⟨j,rfl,_,h6⟩:=objs_in hr d hd
  refine⟨j,rfl,?_,h6⟩
  rw[e4]at hd
  rcases List.mem_append.1 hd with hd|hd
  ·obtain⟨x,hx,e⟩:=List.mem_map.1 hd
   obtain⟨k,ek,_⟩:=hp x (List.mem_append.2 (.inl hx))
   have:=congrArg Pd.pl e
   rw[ek]at this hx
   simp only[pdOf_pl,Int.toNat_natCast]at this
   rw[←this]
   exact List.mem_append.2 (.inl hx)
  ·obtain⟨x,hx,e⟩:=List.mem_map.1 (List.mem_filter.1 hd).1
   obtain⟨k,ek,_⟩:=hp x (List.mem_append.2 (.inr hx))
   have:=congrArg Pd.pl e
   rw[ek]at this hx
   simp only[pdOf_pl,Int.toNat_natCast]at this
   rw[←this]
   exact List.mem_append.2 (.inr hx)
 ·rw[e4]
  rcases List.mem_append.1 hj with hj|hj
  ·exact List.mem_append.2 (.inl (List.mem_map.2 ⟨_,hj,by simp⟩))
  ·refine List.mem_append.2 (.inr (List.mem_filter.2 ⟨List.mem_map.2 ⟨_,hj,by simp⟩,?_⟩))
   show (!(uF (H.row.getD j 0)==6))=true
   simpa using h6
section
variable {a:Option Addr} {H:Hp} {ps:List Int} {ds:List Pd}
theorem Rooms.has (h:Rooms a H ps ds) (x:Int):hasP ds x=(decide (x ∈ ps) && !(uF (H.row.getD x.toNat 0)==6)):=by
 have key:hasP ds x=true↔(x ∈ ps∧uF (H.row.getD x.toNat 0)≠6):=by
  unfold hasP
  rw[List.any_eq_true]
  constructor
  ·rintro⟨d,hd,e⟩
   obtain⟨j,rfl,hj,h6⟩:=h.ofD d hd
   have e':(j:Int)=x:=by simpa [pdOf_pl] using e
   subst e'
   exact⟨hj,by simpa using h6⟩
  ·rintro⟨hx,h6⟩
   obtain⟨j,rfl,_,_⟩:=h.plc x hx
   exact⟨_,h.ofP j hx (by simpa using h6),by simp[pdOf_pl]⟩
 cases e:hasP ds x
 ·symm
  rw[Bool.and_eq_false_iff]
  by_cases hx:x ∈ ps
  ·right
   have:¬(uF (H.row.getD x.toNat 0)≠6):=fun h6=>by rw[key.2 ⟨hx,h6⟩]at e;cases e
   simpa using this
  ·left;simpa using hx
 ·obtain⟨a1,a2⟩:=key.1 e
  rw[decide_eq_true a1]
  simpa using a2
theorem Rooms.word (h:Rooms a H ps ds) (x:Int):holdW ds x=wordIn H ps x:=by
 unfold holdW wordIn
 cases e:isA x
 ·simp
 ·have:isW x=true:=by unfold isW;rw[e];simp
  rw[this,h.has];simp
theorem Rooms.list (h:Rooms a H ps ds) (xs:List Int):holdL ds xs=xs.all (wordIn H ps):=by
 unfold holdL
 congr 1
 funext x
 exact h.word x
theorem slP_of (a:Option Addr) (H:Hp) (j:Nat) (h6:uF (H.row.getD j 0)≠6):slP H.row (pdOf a H.row j)=slotsOf H j:=by
 unfold slP slotsOf
 rw[cnP_of,pdOf_pl,Int.toNat_natCast]
 congr 1
 unfold cnS
 by_cases h7:uF (H.row.getD j 0)=7
 ·rw[if_pos h7,if_pos h7];rfl
 ·rw[if_neg h7,if_neg h7,if_neg h6]
theorem slots_free {H:Hp} {p:Int} (h6:uF (H.row.getD p.toNat 0)=6):slotsOf H p=[]:=by
 unfold slotsOf cnS
 rw[if_neg (by omega),if_pos h6];simp
theorem Rooms.slots (h:Rooms a H ps ds):holdS ds (slP H.row)=slotsOk H ps:=by
 have key:holdS ds (slP H.row)=true↔slotsOk H ps=true:=by
  unfold holdS slotsOk
  rw[List.all_eq_true,List.all_eq_true]
  constructor
  ·intro g p hp
   obtain⟨j,rfl,_,_⟩:=h.plc p hp
   by_cases h6:uF (H.row.getD j 0)=6
   ·rw[slots_free (by simpa using h6)];rfl
   ·have:=g _ (h.ofP j hp h6)
    rwa [h.list,slP_of a H j h6]at this
  ·intro g d hd
   obtain⟨j,rfl,hj,h6⟩:=h.ofD d hd
   rw[h.list,slP_of a H j h6]
   exact g _ hj
 cases e1:holdS ds (slP H.row)<;>cases e2:slotsOk H ps<;>simp_all
end
def ntH (H:Hp) (p:Int):Bool:=uF (H.row.getD p.toNat 0)==7
def nxH (H:Hp) (p:Int):Int:=av (H.row.getD (p.toNat+1) 0)
theorem endsL_is (H:Hp):∀(n:Nat) (p:Int),endsL H n p=ends (ntH H) (nxH H) n p
 |0,_=>rfl
 |n+1,p=>by
  unfold endsL ends ntH
  by_cases h:uF (H.row.getD p.toNat 0)=7
  ·rw[if_pos h,if_pos (by simpa using h),endsL_is H n];rfl
  ·rw[if_neg h,if_neg (by simpa using h)]
theorem notes_next {H:Hp} {ps:List Int} (hN:Notes H ps):∀p ∈ ps,ntH H p=true→nxH H p ∈ ps:=fun p hp h=>(hN p hp (by simpa [ntH] using h)).2.2
theorem endsOk_is {H:Hp} {ps:List Int} (hN:Notes H ps):endsOk H ps=true↔∀p ∈ ps,Fins (ntH H) (nxH H) p:=by
 unfold endsOk
 rw[List.all_eq_true]
 constructor
 ·intro h p hp
  have:=h p hp
  rw[endsL_is]at this
  exact⟨_,this⟩
 ·intro h p hp
  rw[endsL_is]
  exact (fins_iff (notes_next hN) hp (by omega)).2 (h p hp)
theorem Rooms.ends {a:Option Addr} {H:Hp} {ps:List Int} {ds:List Pd} (h:Rooms a H ps ds) (hN:Notes H ps):endsOk H ps=true↔∀i,i<ds.length→Fins (ntH H) (nxH H) (ds.getD i pdD).pl:=by
 rw[endsOk_is hN]
 constructor
 ·intro g i hi
  obtain⟨j,e,hj,_⟩:=h.ofD _ (mem_getDP hi)
  rw[e,pdOf_pl]
  exact g _ hj
 ·intro g p hp
  obtain⟨j,rfl,_,_⟩:=h.plc p hp
  by_cases h6:uF (H.row.getD j 0)=6
  ·refine fins_stop ?_
   unfold ntH
   rw[Int.toNat_natCast,h6];rfl
  ·obtain⟨i,hi,e⟩:=List.getElem_of_mem (h.ofP j hp h6)
   have:=g i hi
   rw[List.getD_eq_getElem?_getD,List.getElem?_eq_getElem hi]at this
   simp only[Option.getD_some]at this
   rw[e,pdOf_pl]at this
   exact this
theorem seen_low {up:Int} {sl:Pd→List Int} {ds:List Pd} (h:∀d ∈ ds,d.pl<up):mustL up sl ds=[]:=by
 unfold mustL
 rw[List.map_eq_nil_iff,List.filter_eq_nil_iff]
 intro d hd e
 have:=h d hd
 simp only[mustB,Bool.and_eq_true,decide_eq_true_eq]at e
 omega
theorem mustL_app (up:Int) (sl:Pd→List Int) (ds es:List Pd):mustL up sl (ds++es)=mustL up sl ds++mustL up sl es:=by
 unfold mustL
 rw[List.filter_append,List.map_append]
theorem seen_high (a:Option Addr) (H:Hp):∀u:List Int,(∀p ∈ u,∃j:Nat,p=j∧2*H.half≤(j:Int))→mustL (2*H.half) (slP H.row) (keepP (pdsOf a H.row u))=u.filter (fun p=>(slotsOf H p).any (youngB H))
 | [],_=>rfl
 |p :: u,h=>by
  have ih:=seen_high a H u (fun q hq=>h q (List.mem_cons_of_mem _ hq))
  obtain⟨j,rfl,hj⟩:=h p (List.mem_cons_self ..)
  have e0:pdsOf a H.row ((j:Int) :: u)=pdOf a H.row j :: pdsOf a H.row u:=by unfold pdsOf;simp
  rw[e0]
  by_cases h6:uF (H.row.getD j 0)=6
  ·have e1:keepP (pdOf a H.row j :: pdsOf a H.row u)=keepP (pdsOf a H.row u):=by
     unfold keepP
     rw[List.filter_cons_of_neg]
     show ¬(!(uF (H.row.getD j 0)==6))=true
     rw[h6];decide
   rw[e1,ih,List.filter_cons_of_neg]
   rw[slots_free (by simpa using h6)];simp
  ·have e1:keepP (pdOf a H.row j :: pdsOf a H.row u)=pdOf a H.row j :: keepP (pdsOf a H.row u):=by
     unfold keepP
     rw[List.filter_cons_of_pos]
     show (!(uF (H.row.getD j 0)==6))=true
     simpa using h6
   have e2:mustB (2*H.half) (slP H.row) (pdOf a H.row j)=(slotsOf H j).any (youngB H):=by
    unfold mustB
    rw[pdOf_pl,decide_eq_true hj,Bool.true_and,slP_of a H j h6];rfl
   rw[e1]
   unfold mustL at ih ⊢
   cases e3:(slotsOf H j).any (youngB H)
   ·rw[List.filter_cons_of_neg (by rw[e2,e3];decide),List.filter_cons_of_neg (by rw[e3];decide)];exact ih
   ·rw[List.filter_cons_of_pos (by rw[e2];exact e3),List.filter_cons_of_pos (by exact e3),List.map_cons,ih,pdOf_pl]
theorem seen_same {a:Option Addr} {H:Hp} (hn:numB H=true) (hr:roomB a H=true):mustL (2*H.half) (slP H.row) (objsP a H)=seenL H:=by
 obtain⟨r,u,e1,e2,e3,e4⟩:=room_some hn hr
 obtain⟨half,old,top,fr,q1,q2,q3,q4,q5,q6,q7,q8,h1,h2,h3,h4⟩:=num_parts hn
 have m1:∀p ∈ r,∃j:Nat,p=j∧j<2*half:=fun p hp=>by
  obtain⟨j,e,_,b,_⟩:=walkO_mem (by rw[q8,q7];omega) e1 hp
  rw[q8,q7]at b
  exact⟨j,e,by omega⟩
 have m2:∀p ∈ u,∃j:Nat,p=j∧2*H.half≤(j:Int):=fun p hp=>by
  obtain⟨j,e,b,_,_⟩:=walkO_mem (by rw[q5,q6];omega) e2 hp
  rw[q5]at b
  exact⟨j,e,by rw[q1];omega⟩
 rw[e4,mustL_app,seen_high a H u m2,seen_low,List.nil_append]
 ·unfold seenL;rw[e2];rfl
 ·intro d hd
  obtain⟨p,hp,rfl⟩:=List.mem_map.1 hd
  obtain⟨j,rfl,hj⟩:=m1 p hp
  rw[Int.toNat_natCast,pdOf_pl,q1];omega
def lstB (H:Hp) (ds:List Pd):Bool:=(decide (H.roots.length=6)&&decide (H.mourned.length≤40))&&(H.mourned.all isA&&holdL ds H.roots&&holdL ds H.mourned)
def openB (a:Option Addr) (H:Hp):Bool:=numB H&&(roomB a H&&holdS (objsP a H) (slP H.row)&&endsOk H ((objsP a H).map (·.pl))&&lstB H (objsP a H))
theorem mourn_all (f g:Int→Bool) (xs:List Int):xs.all (fun x=>f x&&g x)=(xs.all f&&xs.all g):=by
 induction xs with
 |nil=>rfl
 |cons x xs ih=>
  simp only[List.all_cons,ih]
  cases f x<;>cases g x<;>cases xs.all f<;>cases xs.all g<;>rfl
theorem rooms_notes {a:Option Addr} {H:Hp} {ps:List Int} {ds:List Pd} (h:Rooms a H ps ds) (hN:Notes H ps) (hs:slotsOk H ps=true):Notes H (ds.map (·.pl)):=by
 intro p hp h7
 obtain⟨d,hd,rfl⟩:=List.mem_map.1 hp
 obtain⟨j,rfl,hj,h6⟩:=h.ofD d hd
 rw[pdOf_pl]at h7 ⊢
 obtain⟨n1,n2,n3⟩:=hN _ hj h7
 refine⟨n1,n2,?_⟩
 rw[Int.toNat_natCast]at n1 n2 n3 h7 ⊢
 have hw:wordIn H ps (H.row.getD (j+1) 0)=true:=by
  unfold slotsOk at hs
  rw[List.all_eq_true]at hs
  have:=hs _ hj
  rw[List.all_eq_true]at this
  refine this _ ?_
  unfold slotsOf cnS
  rw[Int.toNat_natCast,if_pos h7,List.mem_iff_getElem?]
  refine⟨0,?_⟩
  rw[List.getElem?_take,if_pos (by decide),List.getElem?_drop,Nat.add_zero,List.getElem?_eq_getElem n1,List.getD_eq_getElem?_getD,List.getElem?_eq_getElem n1];rfl
 rw[←h.word]at hw
 unfold holdW at hw
 rw[n2,if_pos rfl]at hw
 unfold hasP at hw
 rw[List.any_eq_true]at hw
 obtain⟨d,hd,e⟩:=hw
 exact List.mem_map.2 ⟨d,hd,by simpa using e⟩
theorem openB_is (a:Option Addr) (H:Hp):openB a H=rightB H:=by
 unfold openB
 cases hn:numB H
 ·rw[Bool.false_and]
  unfold rightB placesR
  have:hbad H=true:=by
   cases e:hbad H
   ·have:=(numB_bad H).1 e
    rw[hn]at this;cases this.1
   ·rfl
  rw[if_pos this]
 rw[Bool.true_and]
 cases hr:roomB a H
 ·rw[Bool.false_and,Bool.false_and,Bool.false_and]
  unfold rightB placesR
  rw[room_none hn hr]
  split<;>simp_all
 rw[Bool.true_and]
 obtain⟨r,u,e1,e2,e3,e4⟩:=room_some hn hr
 by_cases hl:H.roots.length=6∧H.mourned.length≤40
 ·have hb:hbad H=false:=(numB_bad H).2 ⟨hn,hl⟩
  have hR:placesR H=some (r++u):=by unfold placesR;rw[if_neg (by rw[hb];decide),e3]
  have RM:=rooms_of hn hr e3 hR
  unfold rightB
  rw[hR]
  simp only
  rw[RM.slots]
  cases hs:slotsOk H (r++u)
  ·rfl
  ·have hN:=notes_of RM.plc hs
   have hE:endsOk H ((objsP a H).map (·.pl))=endsOk H (r++u):=by
    have k1:=RM.ends hN
    have k2:=endsOk_is (rooms_notes RM hN hs)
    have key:endsOk H ((objsP a H).map (·.pl))=true↔endsOk H (r++u)=true:=by
     rw[k1,k2]
     constructor
     ·intro g i hi
      exact g _ (List.mem_map.2 ⟨_,mem_getDP hi,rfl⟩)
     ·intro g p hp
      obtain⟨d,hd,rfl⟩:=List.mem_map.1 hp
      obtain⟨i,hi,rfl⟩:=List.getElem_of_mem hd
      have:=g i hi
      rwa [List.getD_eq_getElem?_getD,List.getElem?_eq_getElem hi]at this
    cases q1:endsOk H ((objsP a H).map (·.pl))
    ·cases q2:endsOk H (r++u)
     ·rfl
     ·rw[key.2 q2]at q1;cases q1
    ·exact (key.1 q1).symm
   rw[hE]
   unfold lstB mournOk
   rw[decide_eq_true hl.1,decide_eq_true hl.2,RM.list,RM.list,mourn_all]
   cases endsOk H (r++u)<;>cases H.mourned.all isA<;>cases H.roots.all (wordIn H (r++u))<;>cases H.mourned.all (wordIn H (r++u))<;>rfl
 ·have hb:hbad H=true:=by
    cases e:hbad H
    ·exact absurd ((numB_bad H).1 e).2 hl
    ·rfl
  have hR:placesR H=none:=by unfold placesR;rw[if_pos hb]
  unfold rightB
  rw[hR]
  have:lstB H (objsP a H)=false:=by
   unfold lstB
   rw[Bool.and_eq_false_iff]
   left
   rw[Bool.and_eq_false_iff]
   by_cases q:H.roots.length=6
   ·right;exact decide_eq_false (fun q2=>hl ⟨q,q2⟩)
   ·left;exact decide_eq_false q
  rw[this,Bool.and_false]
def okB (a:Option Addr) (H:Hp):Bool:=openB a H&&decide (H.seen=mustL (2*H.half) (slP H.row) (objsP a H))
theorem openB_parts {a:Option Addr} {H:Hp} (h:openB a H=true):numB H=true∧roomB a H=true∧holdS (objsP a H) (slP H.row)=true∧endsOk H ((objsP a H).map (·.pl))=true∧lstB H (objsP a H)=true:=by
 unfold openB at h
 simp only[Bool.and_eq_true]at h
 exact⟨h.1,h.2.1.1.1,h.2.1.1.2,h.2.1.2,h.2.2⟩
theorem okB_is (a:Option Addr) (H:Hp):okB a H=heapOk H:=by
 unfold okB heapOk
 cases e:openB a H
 ·rw[←openB_is a H,e];rfl
 ·obtain⟨hn,hr,_⟩:=openB_parts e
  rw[←openB_is a H,e,seen_same hn hr]
end Go.Proofs.YtocidankimefpaaGreatDoor.hp
namespace Go.Proofs.YtocidankimefpaaGreatDoor.hp
open Go.RowKit rows heads words walks region
set_option maxRecDepth 100000
set_option linter.unusedVariables false
set_option linter.unusedSimpArgs false
set_option maxHeartbeats 1000000 in
theorem l1Same_any {w:World} {v1 v2:Value} {xs ys:List Int} (h1:IntsAt w v1 xs) (h2:IntsAt w v2 ys) (hl:xs.length≤1048576) :
    Calls Tryz.prog 40 #[v1,v2] w fun e w'=>e = .returned (.bool (decide (xs=ys)))∧∃n,w'=w.drewN n:=by
 obtain⟨a,cap,rfl,hlc,hcm,_,hc⟩:=h1
 obtain⟨a',cap',rfl,hlc',hcm',_,hc'⟩:=h2
 by_cases hn:xs.length=ys.length
 ·have HC:Hid (0<xs.length→∃b off,a=some ⟨b,off,none⟩∧b<w.heap.size∧∀i,i<xs.length→w.cell? ⟨b,off+i,none⟩=some (.int .i64 (xs.getD i 0))):=hc
  have HC':Hid (0<ys.length→∃b off,a'=some ⟨b,off,none⟩∧b<w.heap.size∧∀i,i<ys.length→w.cell? ⟨b,off+i,none⟩=some (.int .i64 (ys.getD i 0))):=hc'
  clear hc hc'
  have hni:(xs.length:Int)=(ys.length:Int):=by omega
  go_enter Tryz.func40,Tryz.ntmps40
  go_wp2_with fail
  go_loopw [5] (fun i wr=>∃k n:Nat,k≤xs.length∧i = .int .i64 k∧xs.take k=ys.take k∧wr=w.drewN n) (fun i _=>xs.length-(intOf i).toNat)
  case atStart=>exact⟨0,0,Nat.zero_le _,rfl,by simp,rfl⟩
  case round=>
   obtain⟨k,n,hk,rfl,ht,rfl⟩:=hrel
   by_cases hlt:k<xs.length
   ·obtain⟨b,off,rfl,hb,hc⟩:=HC.out (by omega)
    obtain⟨b',off',rfl,hb',hc'⟩:=HC'.out (by omega)
    have c0:=hc k hlt
    have c1:=hc' k (by omega)
    have HT:Hid (xs.getD k 0=ys.getD k 0→xs.take (k+1)=ys.take (k+1)):=fun e=>take_succ_eq ht hlt (by omega) e
    have HN:Hid (¬xs.getD k 0=ys.getD k 0→decide (xs=ys)=false):=fun e=>by simp only[decide_eq_false_iff_not];intro e';subst e';exact e rfl
    clear hc hc' ht HC HC'
    have hlt':k<ys.length:=by omega
    generalize xs.getD k 0=x at *
    generalize ys.getD k 0=y at *
    by_cases hxy:x=y
    ·go_wp2
     go_quiet (fail)
     go_wp2
     exact⟨⟨k+1,n+nq,by omega,by go_num,HT hxy,rfl⟩,by simp[intOf];omega⟩
    ·go_wp2
     go_quiet (fail)
     go_wp2
     go_ret
     exact⟨by rw[HN hxy];rfl,n+nq,by rw[World.drewN_drewN]⟩
   ·have e:xs=ys:=by
      have e1:xs.take k=xs:=List.take_of_length_le (by omega)
      have e2:ys.take k=ys:=List.take_of_length_le (by omega)
      rw[←e1,ht,e2]
    have HE:Hid (decide (xs=ys)=true):=by show _=true;simpa using e
    clear ht e HC HC'
    go_wp2
    go_ret
    exact⟨by rw[HE.out];rfl,_,rfl⟩
 ·have hni:¬(xs.length:Int)=(ys.length:Int):=by omega
  clear hc hc'
  go_enter Tryz.func40,Tryz.ntmps40
  go_wp2
  go_ret
  exact⟨by rw[decide_eq_false (fun e=>hn (by rw[e]))];rfl,0,rfl⟩
theorem walkL_rising (xs:List Int) (t:Nat):∀(n k:Nat) (l:List Int),walkL xs t n k=some l→Rising l∧∀x ∈ l,(k:Int)≤x:=by
 intro n
 induction n with
 |zero=>
  intro k l h
  unfold walkL at h
  split at h
  ·cases h
  ·cases h;exact⟨List.Pairwise.nil,fun x hx=>by cases hx⟩
 |succ n ih=>
  intro k l h
  by_cases h1:k<t
  ·by_cases hb:chunk xs k=0∨(k:Int)+chunk xs k > t
   ·rw[walkL_bad _ _ _ _ h1 hb]at h;cases h
   ·have:=chunk_bounds xs k
    rw[walkL_step _ _ _ _ h1 hb]at h
    obtain⟨l',hl',rfl⟩:=Option.map_eq_some_iff.1 h
    obtain⟨i1,i2⟩:=ih _ _ hl'
    refine⟨List.pairwise_cons.2 ⟨fun a ha => ?_,i1⟩,fun x hx => ?_⟩
    ·have:=i2 a ha;omega
    ·rcases List.mem_cons.1 hx with rfl|hx
     ·omega
     ·have:=i2 x hx;omega
  ·rw[walkL_end _ _ _ _ h1]at h
   cases h;exact⟨List.Pairwise.nil,fun x hx=>by cases hx⟩
theorem walkO_rising {xs:List Int} {f t:Nat} {l:List Int} (h:walkO xs f t=some l):Rising l:=(walkL_rising xs t _ _ _ h).1
theorem rising_take {l:List Int} (h:Rising l) {k:Nat} (hk:k<l.length):∀x ∈ l.take k,x<l.getD k 0:=by
 intro x hx
 obtain⟨i,hi,rfl⟩:=List.getElem_of_mem hx
 rw[List.length_take]at hi
 rw[List.getElem_take,List.getD_eq_getElem?_getD,List.getElem?_eq_getElem hk]
 exact List.pairwise_iff_getElem.1 h i k (by omega) hk (by omega)
theorem putI_last:∀ {xs:List Int} {n:Int},(∀x ∈ xs,x<n)→putI n xs=xs++[n]
 | [],n,_=>rfl
 |x :: xs,n,h=>by
  have h1:=h x (by simp)
  unfold putI
  rw[if_pos h1,putI_last (fun y hy=>h y (by simp[hy]))]
  rfl
theorem putI_there:∀ {xs:List Int} {n:Int},(∀x ∈ xs,x<n)→putI n (xs++[n])=xs++[n]
 | [],n,_=>by simp[putI]
 |x :: xs,n,h=>by
  have h1:=h x (by simp)
  show putI n (x :: (xs++[n]))=_
  unfold putI
  rw[if_pos h1,putI_there (fun y hy=>h y (by simp[hy]))]
  rfl
def seesY (H:Hp) (p:Int):Bool:=(slotsOf H p).any (youngB H)
theorem seenL_eq (H:Hp):seenL H=((upW H).getD []).filter (seesY H):=rfl
def seenAt (H:Hp) (u:List Int) (k i:Nat):List Int:=(u.take k).filter (seesY H)++(if ((slotsOf H (u.getD k 0)).take i).any (youngB H)=true then [u.getD k 0] else [])
theorem seenAt_zero (H:Hp) (u:List Int) (k:Nat):seenAt H u k 0=(u.take k).filter (seesY H):=by simp[seenAt]
theorem seenAt_end {H:Hp} {u:List Int} {k i:Nat} (hk:k<u.length) (hi:(slotsOf H (u.getD k 0)).length≤i):seenAt H u k i=(u.take (k+1)).filter (seesY H):=by
 unfold seenAt
 rw[List.take_of_length_le hi]
 have:(u.take (k+1)).filter (seesY H)=(u.take k).filter (seesY H)++(if seesY H (u.getD k 0)=true then [u.getD k 0] else []):=by
  rw[List.take_add_one,List.filter_append,List.getElem?_eq_getElem hk,List.getD_eq_getElem?_getD,List.getElem?_eq_getElem hk]
  simp only[Option.toList_some,Option.getD_some]
  congr 1
  cases h:seesY H u[k]<;>simp[h]
 rw[this]
 rfl
theorem any_next {xs:List Int} {f:Int→Bool} {i:Nat} (hi:i<xs.length):(xs.take (i+1)).any f=((xs.take i).any f || f (xs.getD i 0)):=by
 rw[List.take_add_one,List.any_append,List.getElem?_eq_getElem hi,List.getD_eq_getElem?_getD,List.getElem?_eq_getElem hi]
 simp
theorem seenAt_no {H:Hp} {u:List Int} {k i:Nat} (hi:i<(slotsOf H (u.getD k 0)).length) (h:youngB H ((slotsOf H (u.getD k 0)).getD i 0)=false):seenAt H u k (i+1)=seenAt H u k i:=by
 unfold seenAt
 rw[any_next hi,h,Bool.or_false]
theorem seenAt_yes {H:Hp} {u:List Int} (hr:Rising u) {k i:Nat} (hk:k<u.length) (hi:i<(slotsOf H (u.getD k 0)).length) (h:youngB H ((slotsOf H (u.getD k 0)).getD i 0)=true):putI (u.getD k 0) (seenAt H u k i)=seenAt H u k (i+1):=by
 have hlt:∀x ∈ (u.take k).filter (seesY H),x<u.getD k 0:=fun x hx=>rising_take hr hk x (List.mem_filter.1 hx).1
 unfold seenAt
 rw[any_next hi,h,Bool.or_true,if_pos rfl]
 split
 ·exact putI_there hlt
 ·rw[List.append_nil];exact putI_last hlt
theorem seenAt_len {H:Hp} {u:List Int} {k i:Nat}:(seenAt H u k i).length≤u.length+1:=by
 unfold seenAt
 have:=List.length_filter_le (seesY H) (u.take k)
 rw[List.length_take]at this
 rw[List.length_append]
 split<;>simp<;>omega
set_option maxHeartbeats 16000000 in
theorem l9Seen_any {w:World} {vr vo vm vs:Value} {H:Hp} (h:HpAt w vr vo vm vs H) (N:Nums H) {u:List Int} (hu:upW H=some u) :
    Calls Tryz.prog 41 #[hpv H vr vo vm vs] w fun e w'=>∃v',e = .returned v'∧rows.Own w' w.heap.size v' (seenL H)∧Below w.heap.size w w':=by
 obtain⟨R,hR⟩:∃R,seenL H=R:=⟨_,rfl⟩
 rw[hR]
 have hR':u.filter (seesY H)=R:=by rw[←hR,seenL_eq,hu];rfl
 have HRV:Hid _:=hR'
 clear hR hR'
 have hl:=N.len
 have n1:=N.half1
 have n2:=N.old1
 have HRis:Hid (Rising u):=walkO_rising hu
 have HPC:Hid (∀p ∈ u,∃j:Nat,p=j∧j<H.row.length∧chunk H.row j≠0):=fun p hp=>by
  obtain⟨j,e,_,a,b⟩:=walkO_mem (by omega) hu hp
  exact⟨j,e,by omega,b⟩
 have hul:=(walkO_len (by omega) hu).1
 have hul':u.length≤1000:=by omega
 obtain⟨a1,c1,a2,c2,a3,c3,a4,c4,e1,e2,e3,e4⟩:=hpAt_slices h
 subst e1 e2 e3 e4
 have B0:Below w.heap.size w ((w.alloc (hpb H (.slice a1 H.row.length c1) (.slice a2 H.roots.length c2) (.slice a3 H.mourned.length c3) (.slice a4 H.seen.length c4))).alloc (.cells #[] 2)):=((Below.refl _ _).alloc (Nat.le_refl _) _).alloc (by simp) _
 have HO0:Hid (rows.Own ((w.alloc (hpb H (.slice a1 H.row.length c1) (.slice a2 H.roots.length c2) (.slice a3 H.mourned.length c3) (.slice a4 H.seen.length c4))).alloc (.cells #[] 2)) w.heap.size (.slice (some ⟨w.heap.size+1,0,none⟩) 0 0) []):=own_nothing2 (by simp) (by omega)
 have T0:HpBlk ((w.alloc (hpb H (.slice a1 H.row.length c1) (.slice a2 H.roots.length c2) (.slice a3 H.mourned.length c3) (.slice a4 H.seen.length c4))).alloc (.cells #[] 2)) w.heap.size H (.slice a1 H.row.length c1) (.slice a2 H.roots.length c2) (.slice a3 H.mourned.length c3) (.slice a4 H.seen.length c4):=nine_below (nine_new w H _ _ _ _) ((Below.refl _ _).alloc (Nat.le_refl _) _)
 obtain⟨⟨z0,z1,z2,z3,z4⟩,⟨z5,z6,z7,z8⟩,_⟩:=nine_cells T0
 have HT0:Hid _:=T0
 have HB0:Hid _:=B0
 have HH0:Hid _:=hpAt_below h B0
 have eH:=N.half
 have eO:=N.old
 rw[eH]at z0
 rw[eO]at z1
 have WK:=l4Walk_any (hpAt_below h B0).1 (by omega) (2*hf H) (2*hf H+od H) (by omega)
 rw[show walkO H.row (2*hf H) (2*hf H+od H)=some u from hu]at WK
 have HHf:Hid (-1000≤H.half∧H.half≤1000):=⟨by omega,by omega⟩
 have rowl:H.row.length≤800:=by omega
 generalize hf H=F at *
 generalize od H=D at *
 obtain⟨M,hM⟩:∃M:Nat,2*F=M:=⟨_,rfl⟩
 obtain⟨T,hT⟩:∃T:Nat,M+D=T:=⟨_,rfl⟩
 have eM:2*(F:Int)=(M:Int):=by omega
 have eTT:(M:Int)+(D:Int)=(T:Int):=by omega
 rw[hM,hT]at WK
 have bF:F≤200:=n1.2.1
 have bD:D≤400:=n2.2.1
 have bM:M≤400:=by omega
 clear B0 T0 h N hu hl n1 n2 eH eO hM hT hul
 go_enter Tryz.func41,Tryz.ntmps41
 go_wp2_with fail
 generalize ((w.alloc (hpb H (.slice a1 H.row.length c1) (.slice a2 H.roots.length c2) (.slice a3 H.mourned.length c3) (.slice a4 H.seen.length c4))).alloc (.cells #[] 2))=X at *
 refine WK.mono ?_
 clear WK
 rintro e w1 ⟨vu,rfl,O1,b1⟩
 have HO1:Hid (rows.Own w1 X.heap.size vu u):=O1
 obtain⟨pa,pc,rfl,hp1,hp2,_,_⟩:=own_ints O1
 have HT1:Hid _:=nine_below HT0.out b1
 have HH1:Hid (HpAt w1 (.slice a1 H.row.length c1) (.slice a2 H.roots.length c2) (.slice a3 H.mourned.length c3) (.slice a4 H.seen.length c4) H):=hpAt_below HH0.out b1
 have HB1:Hid _:=HB0.out.trans (b1.mono HB0.out.size)
 have HE1:Hid _:=own_below HO0.out b1
 have hwlt:=lt_of_block HT1.out
 clear O1 b1 HT0 HH0 HB0 HO0 z0 z1 z2 z3 z4 z5 z6 z7 z8 eM eTT
 go_wp2_with fail
 go_loopw [3,6] (fun o p wr=>∃(k:Nat) (v:Value),v=o∧k≤u.length∧p = .int .i64 (k:Int)∧rows.Own wr w.heap.size v ((u.take k).filter (seesY H))∧Below w1.heap.size w1 wr) (fun _ p _=>u.length-(intOf p).toNat)
 case atStart=>exact⟨0,_,rfl,Nat.zero_le _,rfl,HE1.out,Below.refl _ _⟩
 case round=>
  obtain⟨k,v,rfl,hk,rfl,hO,hB⟩:=hrel
  clear HE1
  by_cases hlt:k<u.length
  ·have hlt':(k:Int)<(u.length:Int):=by omega
   have T5:=nine_below HT1.out hB
   have Row5:=intsAt_below HH1.out.1 hB
   have R5:=own_below HO1.out hB
   obtain⟨j,hj,hjl,hch⟩:=HPC.out (u.getD k 0) (by rw[List.getD_eq_getElem?_getD,List.getElem?_eq_getElem hlt];exact List.getElem_mem hlt)
   obtain⟨lb,lo,ev,hlb,x0⟩:=ints_cell (own_ints R5) hlt
   subst ev
   rw[hj]at x0
   have HJ:Hid _:=hj
   obtain⟨⟨z0,z1,z2,z3,z4⟩,⟨z5,z6,z7,z8⟩,_⟩:=nine_cells T5
   have hcs:=chunk_slots hch
   have HSL:Hid _:=slots_len (H:=H) hch
   obtain⟨cn,hcn⟩:∃cn:Nat,cnS (H.row.getD j 0)=(cn:Int):=⟨(cnS (H.row.getD j 0)).toNat,by omega⟩
   rw[hcn]at hcs HSL
   rw[Int.toNat_natCast]at HSL
   have HSG:Hid (∀i,i<cn→(slotsOf H (j:Int)).getD i 0=H.row.getD (j+1+i) 0):=fun i hi=>slots_getD (by rw[hcn,Int.toNat_natCast];exact hi)
   have HLC:Hid (∀W,Calls Tryz.prog 84 #[hv (uS (H.row.getD j 0)) (uF (H.row.getD j 0)) (uC (H.row.getD j 0)) (uH (H.row.getD j 0)) (uP (H.row.getD j 0)) (uM (H.row.getD j 0))] W fun e w'=>e = .returned (.int .i64 (cn:Int))∧Below W.heap.size W w'):=fun W=>(l4Count_any _ _ _ _ _ _ W).mono fun e w' ⟨he,hw⟩=>⟨by rw[he,←hcn];rfl,by rw[hw];exact (Below.refl _ _).alloc (Nat.le_refl _) _⟩
   have bcn:(j:Int)+1+cn≤H.row.length:=hcs.2
   have HOV:Hid _:=hO
   obtain⟨oa,on,oc,rfl⟩:=ints_slice (own_ints hO)
   clear hj hcs hcn hO
   have BA:=(Below.refl wr.heap.size wr).alloc (Nat.le_refl _) (hb 0 0 0 0 false false)
   have z2':=(BA.cell (p:=⟨w.heap.size,2,none⟩) (World.block_lt_of_cell? _ _ z2)).trans z2
   have x0':=(BA.cell (p:=⟨lb,lo+k,none⟩) hlb).trans x0
   have HL4:Hid (∀W,Below wr.heap.size wr W→Calls Tryz.prog 45 #[.slice a1 H.row.length c1,.int .i64 (j:Int)] W fun e w'=>e = .returned (hv (uS (H.row.getD j 0)) (uF (H.row.getD j 0)) (uC (H.row.getD j 0)) (uH (H.row.getD j 0)) (uP (H.row.getD j 0)) (uM (H.row.getD j 0)))∧Below W.heap.size W w'):=fun W hW=>l4Head_any (intsAt_below Row5 hW) j hjl
   have HA:Hid (∀W,Below (wr.alloc (hb 0 0 0 0 false false)).heap.size (wr.alloc (hb 0 0 0 0 false false)) W→HeadAt W wr.heap.size 0 0 0 0 false false):=fun W hW=>headAt_below (headAt_new wr 0 0 0 0 false false) hW
   have HBA:Hid _:=BA
   have HBz:Hid _:=hB
   clear T5 Row5 R5 hB BA
   generalize uF (H.row.getD j 0)=f at *
   generalize uS (H.row.getD j 0)=s at *
   generalize uC (H.row.getD j 0)=c at *
   generalize uH (H.row.getD j 0)=g at *
   generalize uP (H.row.getD j 0)=p at *
   generalize uM (H.row.getD j 0)=m at *
   go_upto_region 6 with fail
   go_cut [6,7] from 25 to 62 (fun i q wy=>i = .int .i64 (k:Int)∧∃B,q = .pointer (some ⟨B,0,none⟩)∧HeadAt wy B s f c g p m∧Below wr.heap.size wr wy)
   case first=>
    go_region_law (first
     |(go_simp;go_at_call 45;refine (HL4.out _ HBA.out.drew).mono ?_;clear HL4;rintro e w6 ⟨rfl,b6⟩;have b7:Below (wr.alloc (hb 0 0 0 0 false false)).heap.size (wr.alloc (hb 0 0 0 0 false false)) w6:=⟨b6.os,b6.tape,b6.output,b6.size,b6.block⟩;have TA:=HA.out w6 b7;obtain⟨t0',t1',t2',t3',t4',t5',tf⟩:=headAt_cells TA;have f0:=tf 0;have f1:=tf 1;have f2:=tf 2;have f3:=tf 3;have f4:=tf 4;have f5:=tf 5;have HEnd:Hid _:=And.intro (six_set TA s f c g p m) (six_below (HBA.out.trans (b7.mono HBA.out.size)) (Nat.le_refl wr.heap.size) s f c g p m);clear b6 b7 TA tf)
     |(go_simp;go_at_call 45;refine (HL4.out _ (Below.refl _ _).drew).mono ?_;clear HL4;rintro e w6 ⟨rfl,b6⟩;have b7:Below wr.heap.size wr w6:=⟨b6.os,b6.tape,b6.output,b6.size,b6.block⟩;have HEnd:Hid _:=And.intro (headAt_new w6 s f c g p m) (b7.alloc b7.size (hb s f c g p m));clear b6 b7))
    all_goals (go_wp2_with fail)
    all_goals go_meet
    all_goals exact⟨rfl,_,rfl,HEnd.out.1,HEnd.out.2⟩
   obtain⟨rfl,B,rfl,hHd,hBy⟩:=hcut
   have HHd:Hid _:=hHd
   have HB7:Hid (Below w1.heap.size w1 wc):=HBz.out.trans (hBy.mono HBz.out.size)
   have HO7:Hid (rows.Own wc w.heap.size (.slice oa on oc) (seenAt H u k 0)):=by show rows.Own _ _ _ _;rw[seenAt_zero];exact own_below HOV.out hBy
   clear z0 z1 z2 z3 z4 z5 z6 z7 z8 z2' x0 x0' HL4 HA HBA hHd hBy HBz HOV
   go_wp2_with fail
   go_loopw [3,8] (fun o q wr=>∃(i:Nat) (v:Value),v=o∧i≤cn∧q = .int .i64 (i:Int)∧rows.Own wr w.heap.size v (seenAt H u k i)∧Below wc.heap.size wc wr) (fun _ q _=>cn-(intOf q).toNat)
   case atStart=>exact⟨0,_,rfl,Nat.zero_le _,rfl,HO7.out,Below.refl _ _⟩
   case round=>
    obtain⟨i,v,rfl,hi,rfl,hO2,hB2⟩:=hrel
    clear HO7
    have T6:=headAt_below HHd.out hB2
    have HB8:Hid (Below w1.heap.size w1 wr):=HB7.out.trans (hB2.mono HB7.out.size)
    have HBwc:Hid _:=hB2
    obtain⟨t0',t1',t2',t3',t4',t5',_⟩:=headAt_cells T6
    have HOV:Hid _:=hO2
    obtain⟨oa',on',oc',rfl⟩:=ints_slice (own_ints hO2)
    clear T6 hB2 hO2
    by_cases hil:i<cn
    ·have hil':(i:Int)<(cn:Int):=by omega
     go_wp2_with fail
     refine (HLC.out _).mono ?_
     rintro e w4 ⟨rfl,b4⟩
     have B9:Below w1.heap.size w1 w4:=HB8.out.trans (b4.mono HB8.out.size)
     have B10:=b4
     have HOV4:Hid _:=own_below HOV.out b4
     clear t0' t1' t2' t3' t4' t5' b4 HOV
     have T7:=nine_below HT1.out B9
     have H7:=hpAt_below HH1.out B9
     have O7:=own_below HO1.out B9
     go_upto_region 10 with fail
     obtain⟨⟨z0,z1,z2,z3,z4⟩,⟨z5,z6,z7,z8⟩⟩:=nine_grow T7
     obtain⟨rb,ro,erb,hrb,y0⟩:=ints_cell H7.1 (k:=j+1+i) (by omega)
     obtain⟨lb',lo',elb,hlb',y1⟩:=ints_cell (own_ints O7) hlt
     have elb1:lb'=lb:=by injection elb with e;injection e with e1 e2;exact e1.symm
     have elb2:lo'=lo:=by injection elb with e;injection e with e1 e2;exact e2.symm
     subst elb1 elb2
     subst erb
     rw[HJ.out]at y1
     have Y0:=cell_grow y0
     have Y1:=cell_grow y1
     have HWD:Hid (∀x:Ext w4.heap.size w4,Calls Tryz.prog 89 #[hpv H (.slice (some ⟨rb,ro,none⟩) H.row.length c1) (.slice a2 H.roots.length c2) (.slice a3 H.mourned.length c3) (.slice a4 H.seen.length c4),.int .i64 (H.row.getD (j+1+i) 0)] x.to fun e w''=>e = .returned (.bool (youngB H (H.row.getD (j+1+i) 0)))∧∃y:Ext w4.heap.size w4,w''=y.to):=fun x=>calls_grow (Nat.le_refl _) (l9Young_any (hpAt_below H7 x.below) HHf.out _)
     have HB9:Hid _:=B9
     clear T7 H7 O7 y0 y1 B9
     obtain⟨wv,hwv⟩:∃wv,youngB H (H.row.getD (j+1+i) 0)=wv:=⟨_,rfl⟩
     rw[hwv]at HWD
     have HWV:Hid (youngB H ((slotsOf H (u.getD k 0)).getD i 0)=wv):=by show _=_;rw[HJ.out,HSG.out i hil];exact hwv
     clear hwv
     generalize H.row.getD (j+1+i) 0=yy at *
     have i1:((j:Int)+1+(i:Int)).toNat=j+1+i:=by omega
     have i2:(0:Int)≤(j:Int)+1+(i:Int):=by omega
     have i3:(j:Int)+1+(i:Int)<(H.row.length:Int):=by omega
     haveI:=ext_any w4
     refine region_grow (n:=w4.heap.size) (by kernel_rfl) (by kernel_rfl) ?_
     repeat (go_big_quiet_step ((go_at_call 89;exact HWD.out _)))
     refine wpQuiet_nil ?_
     intro _ hw'
     obtain⟨x,rfl⟩:=hw'
     have HBx:Hid (Below w1.heap.size w1 x.to):=HB9.out.trans (x.below.mono HB9.out.size)
     have HBy:Hid (Below wc.heap.size wc x.to):=(HBwc.out.trans (B10.mono HBwc.out.size)).trans (x.below.mono ((HBwc.out.trans (B10.mono HBwc.out.size)).size))
     have HOX:Hid _:=own_below HOV4.out x.below
     have y1:=Y1 x
     clear z0 z1 z2 z3 z4 z5 z6 z7 z8 Y0 Y1 HWD B10 HOV4
     generalize x.to=W at *
     clear x this
     cases wv with
     |false=>
      have HV:Hid (rows.Own W w.heap.size (.slice oa' on' oc') (seenAt H u k (i+1))):=by show rows.Own _ _ _ _;rw[seenAt_no (by rw[HJ.out,HSL.out];exact hil) HWV.out];exact HOX.out
      clear HOX HWV
      go_wp2
      exact⟨⟨i+1,_,rfl,by omega,by go_num,HV.out,HBy.out⟩,by simp[intOf];omega⟩
     |true=>
      have hbw:w.heap.size≤W.heap.size:=(HB1.out.trans (HBx.out.mono HB1.out.size)).size
      have PU:=l1Put_any HOX.out hbw (Nat.le_trans seenAt_len (by omega)) (u.getD k 0)
      rw[seenAt_yes HRis.out hlt (by rw[HJ.out,HSL.out];exact hil) HWV.out,HJ.out]at PU
      clear HOX HWV hbw
      go_wp2_with fail
      refine PU.mono ?_
      clear PU
      rintro e w5 ⟨v5,rfl,O5,b5⟩
      have HO5:Hid _:=O5
      have HB5:Hid (Below wc.heap.size wc w5):=HBy.out.trans (b5.mono HBy.out.size)
      obtain⟨a5,n5,c5,rfl⟩:=ints_slice (own_ints O5)
      clear O5 b5 y1
      go_wp2
      exact⟨⟨i+1,_,rfl,by omega,by go_num,HO5.out,HB5.out⟩,by simp[intOf];omega⟩
    ·have hil':¬(i:Int)<(cn:Int):=by omega
     go_wp2_with fail
     refine (HLC.out _).mono ?_
     rintro e w4 ⟨rfl,b4⟩
     have HB9:Hid (Below w1.heap.size w1 w4):=HB8.out.trans (b4.mono HB8.out.size)
     have HV:Hid (rows.Own w4 w.heap.size (.slice oa' on' oc') ((u.take (k+1)).filter (seesY H))):=by
      show rows.Own _ _ _ _
      rw[←seenAt_end (i:=i) hlt (by rw[HJ.out,HSL.out];omega)]
      exact own_below HOV.out b4
     clear t0' t1' t2' t3' t4' t5' b4 HOV
     go_wp2
     exact⟨⟨k+1,_,rfl,by omega,by go_num,HV.out,HB9.out⟩,by simp[intOf];omega⟩
  ·have hlt':¬(k:Int)<(u.length:Int):=by omega
   have HV:Hid (rows.Own wr w.heap.size v R):=by
    show rows.Own _ _ _ _
    rw[←HRV.out]
    have:=hO
    rwa [List.take_of_length_le (show u.length≤k by omega)]at this
   have HBE:Hid _:=HB1.out.trans (hB.mono HB1.out.size)
   obtain⟨oa,on,oc,rfl⟩:=ints_slice (own_ints hO)
   clear hO hB
   go_wp2
   go_ret
   exact⟨_,rfl,HV.out,HBE.out⟩
theorem right_some {H:Hp} (h:rightB H=true):∃ps,placesR H=some ps:=by
 unfold rightB at h
 cases d:placesR H with
 |none=>rw[d]at h;cases h
 |some ps=>exact⟨ps,rfl⟩
set_option maxHeartbeats 8000000 in
theorem sHeapOk_any {w:World} {vr vo vm vs:Value} {H:Hp} (h:HpAt w vr vo vm vs H) (hs:hpSize H≤1048576) :
    Calls Tryz.prog 15 #[hpv H vr vo vm vs] w fun e w'=>e = .returned (.bool (heapOk H))∧Below w.heap.size w w':=by
 obtain⟨_,_,_,hsl⟩:=hp_parts hs
 obtain⟨a1,c1,a2,c2,a3,c3,a4,c4,e1,e2,e3,e4⟩:=hpAt_slices h
 subst e1 e2 e3 e4
 have B0:Below w.heap.size w (w.alloc (hpb H (.slice a1 H.row.length c1) (.slice a2 H.roots.length c2) (.slice a3 H.mourned.length c3) (.slice a4 H.seen.length c4))):=(Below.refl _ _).alloc (Nat.le_refl _) _
 have T0:=nine_new w H (.slice a1 H.row.length c1) (.slice a2 H.roots.length c2) (.slice a3 H.mourned.length c3) (.slice a4 H.seen.length c4)
 have HT0:Hid _:=T0
 have HB0:Hid _:=B0
 have HH0:Hid (HpAt _ (.slice a1 H.row.length c1) (.slice a2 H.roots.length c2) (.slice a3 H.mourned.length c3) (.slice a4 H.seen.length c4) H):=hpAt_below h B0
 cases dr:rightB H
 ·have e:heapOk H=false:=by unfold heapOk;rw[dr];rfl
  rw[e]
  obtain⟨⟨z0,z1,z2,z3,z4⟩,⟨z5,z6,z7,z8⟩⟩:=nine_grow T0
  have HWD:Hid (∀x:Ext (w.alloc (hpb H (.slice a1 H.row.length c1) (.slice a2 H.roots.length c2) (.slice a3 H.mourned.length c3) (.slice a4 H.seen.length c4))).heap.size (w.alloc (hpb H (.slice a1 H.row.length c1) (.slice a2 H.roots.length c2) (.slice a3 H.mourned.length c3) (.slice a4 H.seen.length c4))),Calls Tryz.prog 39 #[hpv H (.slice a1 H.row.length c1) (.slice a2 H.roots.length c2) (.slice a3 H.mourned.length c3) (.slice a4 H.seen.length c4)] x.to fun e w''=>e = .returned (.bool false)∧∃y:Ext (w.alloc (hpb H (.slice a1 H.row.length c1) (.slice a2 H.roots.length c2) (.slice a3 H.mourned.length c3) (.slice a4 H.seen.length c4))).heap.size (w.alloc (hpb H (.slice a1 H.row.length c1) (.slice a2 H.roots.length c2) (.slice a3 H.mourned.length c3) (.slice a4 H.seen.length c4))),w''=y.to):=fun x=>calls_grow (Nat.le_refl _) (dr▸l9Right_any (hpAt_below HH0.out x.below))
  clear B0 T0 h e dr
  go_enter Tryz.func15,Tryz.ntmps15
  go_upto_region 1 with fail
  generalize (w.alloc (hpb H (.slice a1 H.row.length c1) (.slice a2 H.roots.length c2) (.slice a3 H.mourned.length c3) (.slice a4 H.seen.length c4)))=X at *
  haveI:=ext_any X
  refine region_grow (n:=X.heap.size) (by kernel_rfl) (by kernel_rfl) ?_
  repeat (go_big_quiet_step ((go_at_call 39;exact HWD.out _)))
  refine wpQuiet_nil ?_
  intro _ hw'
  obtain⟨x,rfl⟩:=hw'
  have HBE:Hid _:=HB0.out.trans (x.below.mono HB0.out.size)
  clear z0 z1 z2 z3 z4 z5 z6 z7 z8 HWD
  generalize x.to=W at *
  clear x this
  go_wp2
  go_ret
  exact⟨rfl,HBE.out⟩
 ·have e:heapOk H=decide (H.seen=seenL H):=by unfold heapOk;rw[dr];rfl
  rw[e]
  obtain⟨ps,hps⟩:=right_some dr
  obtain⟨N,_,r,u,_,hu,_,_⟩:=places_facts hps
  have HR9:Hid (∀W,Below (w.alloc (hpb H (.slice a1 H.row.length c1) (.slice a2 H.roots.length c2) (.slice a3 H.mourned.length c3) (.slice a4 H.seen.length c4))).heap.size (w.alloc (hpb H (.slice a1 H.row.length c1) (.slice a2 H.roots.length c2) (.slice a3 H.mourned.length c3) (.slice a4 H.seen.length c4))) W→Calls Tryz.prog 39 #[hpv H (.slice a1 H.row.length c1) (.slice a2 H.roots.length c2) (.slice a3 H.mourned.length c3) (.slice a4 H.seen.length c4)] W fun e w'=>e = .returned (.bool true)∧Below W.heap.size W w'):=fun W hW=>dr▸l9Right_any (hpAt_below HH0.out hW)
  have HS9:Hid (∀W,Below (w.alloc (hpb H (.slice a1 H.row.length c1) (.slice a2 H.roots.length c2) (.slice a3 H.mourned.length c3) (.slice a4 H.seen.length c4))).heap.size (w.alloc (hpb H (.slice a1 H.row.length c1) (.slice a2 H.roots.length c2) (.slice a3 H.mourned.length c3) (.slice a4 H.seen.length c4))) W→Calls Tryz.prog 41 #[hpv H (.slice a1 H.row.length c1) (.slice a2 H.roots.length c2) (.slice a3 H.mourned.length c3) (.slice a4 H.seen.length c4)] W fun e w'=>∃v',e = .returned v'∧rows.Own w' W.heap.size v' (seenL H)∧Below W.heap.size W w'):=fun W hW=>l9Seen_any (hpAt_below HH0.out hW) N hu
  generalize seenL H=S at *
  clear B0 h e dr hps N hu
  go_enter Tryz.func15,Tryz.ntmps15
  go_upto_region 1 with fail
  generalize (w.alloc (hpb H (.slice a1 H.row.length c1) (.slice a2 H.roots.length c2) (.slice a3 H.mourned.length c3) (.slice a4 H.seen.length c4)))=X at *
  obtain⟨⟨z0,z1,z2,z3,z4⟩,⟨z5,z6,z7,z8⟩,_⟩:=nine_cells T0
  clear T0
  go_region_law (first
   |(have hh:=HR9;clear hh;go_simp;go_at_call 39;refine (HR9.out _ (Below.refl _ _).drew).mono ?_;clear HR9;rintro e w2 ⟨rfl,b2⟩;have b2':Below X.heap.size X w2:=⟨b2.os,b2.tape,b2.output,b2.size,b2.block⟩;have HB2:Hid _:=b2';clear b2 b2' z0 z1 z2 z3 z4 z5 z6 z7 z8;obtain⟨⟨z0,z1,z2,z3,z4⟩,⟨z5,z6,z7,z8⟩,_⟩:=nine_cells (nine_below HT0.out HB2.out))
   |(have hh:=HS9;clear hh;go_simp;go_at_call 41;refine (HS9.out _ HB2.out).mono ?_;clear HS9;rintro e w3 ⟨v3,rfl,O3,b3⟩;have HB3:Hid (Below X.heap.size X w3):=HB2.out.trans (b3.mono HB2.out.size);have HSM:Hid _:=l1Same_any (intsAt_below HH0.out.2.2.2 HB3.out) (own_ints O3) hsl;obtain⟨sa,sn,sc,rfl⟩:=ints_slice (own_ints O3);clear O3 b3 z0 z1 z2 z3 z4 z5 z6 z7 z8;obtain⟨⟨z0,z1,z2,z3,z4⟩,⟨z5,z6,z7,z8⟩,_⟩:=nine_cells (nine_below HT0.out HB3.out))
   |(have hh:=HSM;clear hh;go_simp;go_at_call 40;refine Calls.mono HSM.out ?_;clear HSM;rintro e w4 ⟨rfl,q4⟩;have HB4:Hid (Below w.heap.size w w4):=(HB0.out.trans (HB3.out.mono HB0.out.size)).trans ((bel_of_drewN q4).mono (HB0.out.trans (HB3.out.mono HB0.out.size)).size);clear q4))
  all_goals (go_wp2)
  all_goals go_ret
  all_goals exact⟨rfl,HB4.out⟩
end Go.Proofs.YtocidankimefpaaGreatDoor.hp
namespace Go.Proofs.YtocidankimefpaaGreatDoor.hp
open Go.RowKit rows heads words walks
set_option maxRecDepth 100000
set_option linter.unusedVariables false
def toNote (H:Hp) (x:Int):Bool:=isA x&&ntH H (av x)
def noteW (H:Hp) (x:Int):Int:=H.row.getD ((av x).toNat+1) 0
def folL (H:Hp):Nat→Int→Int
 |0,x=>x
 |n+1,x=>if toNote H x=true then folL H n (noteW H x) else x
def rkL (H:Hp):Nat→Int→Nat
 |0,_=>0
 |n+1,x=>if toNote H x=true then rkL H n (noteW H x)+1 else 0
def fol (H:Hp) (x:Int):Int:=folL H 1000 x
def rk (H:Hp) (x:Int):Nat:=rkL H 1000 x
theorem fol_stop {H:Hp} {x:Int} (h:toNote H x=false):fol H x=x:=by
 unfold fol folL
 rw[if_neg (by rw[h];decide)]
theorem nx_note (H:Hp) (x:Int):nxH H (av x)=av (noteW H x):=rfl
theorem folL_more (H:Hp):∀(n:Nat) (x:Int),(isA x=true→ends (ntH H) (nxH H) n (av x)=true)→folL H n x=folL H (n+1) x∧rkL H n x=rkL H (n+1) x
 |0,x,h=>by
  have:toNote H x=false:=by
   unfold toNote
   cases e:isA x
   ·rfl
   ·cases h e
  unfold folL rkL
  rw[if_neg (by rw[this];decide),if_neg (by rw[this];decide)]
  exact⟨rfl,rfl⟩
 |n+1,x,h=>by
  cases e:toNote H x
  ·have e0:¬toNote H x=true:=by rw[e];decide
   constructor
   ·rw[folL,if_neg e0,folL,if_neg e0]
   ·rw[rkL,if_neg e0,rkL,if_neg e0]
  ·have e':=e
   unfold toNote at e'
   rw[Bool.and_eq_true]at e'
   have h1:=h e'.1
   unfold ends at h1
   rw[if_pos e'.2,nx_note]at h1
   obtain⟨i1,i2⟩:=folL_more H n (noteW H x) (fun _=>h1)
   constructor
   ·rw[folL,if_pos e,folL,if_pos e,i1]
   ·rw[rkL,if_pos e,rkL,if_pos e,i2]
structure Rt (H:Hp) (ps:List Int):Prop where
 some':placesR H=some ps
 plc:∀p ∈ ps,∃j:Nat,p=j∧j<H.row.length∧chunk H.row j≠0
 notes:Notes H ps
 fin:∀p ∈ ps,ends (ntH H) (nxH H) 1000 p=true
 slots:slotsOk H ps=true
 roots:H.roots.all (wordIn H ps)=true
 mourned:mournOk H ps=true
theorem rt_of {H:Hp} (h:rightB H=true):∃ps,Rt H ps:=by
 obtain⟨ps,hps⟩:=right_some h
 unfold rightB at h
 rw[hps]at h
 simp only[Bool.and_eq_true]at h
 obtain⟨⟨⟨h1,h2⟩,h3⟩,h4⟩:=h
 obtain⟨hp,hl⟩:=places_plc hps
 have hN:=notes_of hp h1
 refine⟨ps,hps,hp,hN,fun p hpp => ?_,h1,h3,h4⟩
 exact (fins_iff (notes_next hN) hpp (by omega)).2 ((endsOk_is hN).1 h2 p hpp)
theorem Rt.len {H:Hp} {ps:List Int} (R:Rt H ps):H.row.length≤1000:=by
 have N:=(places_facts R.some').1
 have:=N.len
 have:=N.half1
 have:=N.old1
 omega
theorem ok_right {H:Hp} (h:heapOk H=true):rightB H=true∧H.seen=seenL H:=by
 unfold heapOk at h
 rw[Bool.and_eq_true,decide_eq_true_eq]at h
 exact h
theorem word_place {H:Hp} {ps:List Int} {x:Int} (h:wordIn H ps x=true) (hA:isA x=true):av x ∈ ps∧uF (H.row.getD (av x).toNat 0)≠6:=by
 unfold wordIn at h
 rw[hA]at h
 simpa using (by simpa using h:isW x=true∧_).2
theorem Rt.note {H:Hp} {ps:List Int} (R:Rt H ps) {x:Int} (hx:wordIn H ps x=true) (hn:toNote H x=true):(av x).toNat+1<H.row.length∧wordIn H ps (noteW H x)=true∧isA (noteW H x)=true∧fol H x=fol H (noteW H x)∧rk H (noteW H x)<rk H x:=by
 have hn':=hn
 unfold toNote at hn'
 rw[Bool.and_eq_true]at hn'
 obtain⟨hA,hnt⟩:=hn'
 obtain⟨hm,_⟩:=word_place hx hA
 have h7:uF (H.row.getD (av x).toNat 0)=7:=by simpa [ntH] using hnt
 obtain⟨n1,n2,n3⟩:=R.notes _ hm h7
 have hf:=R.fin _ hm
 have hf':ends (ntH H) (nxH H) 999 (av (noteW H x))=true:=by
  unfold ends at hf
  rw[if_pos hnt,nx_note]at hf
  exact hf
 obtain⟨i1,i2⟩:=folL_more H 999 (noteW H x) (fun _=>hf')
 refine⟨n1,?_,n2,?_,?_⟩
 ·have hs:=R.slots
  unfold slotsOk at hs
  rw[List.all_eq_true]at hs
  have h1:=hs _ hm
  rw[List.all_eq_true]at h1
  refine h1 _ ?_
  unfold slotsOf cnS noteW
  rw[if_pos h7,List.mem_iff_getElem?]
  refine⟨0,?_⟩
  rw[List.getElem?_take,if_pos (by decide),List.getElem?_drop,Nat.add_zero,List.getElem?_eq_getElem n1,List.getD_eq_getElem?_getD,List.getElem?_eq_getElem n1];rfl
 ·show folL H 1000 x=folL H 1000 (noteW H x)
  rw[show (1000:Nat)=999+1 from rfl,folL,if_pos hn,i1]
 ·show rkL H 1000 (noteW H x)<rkL H 1000 x
  rw[show rkL H 1000 x=rkL H 999 (noteW H x)+1 by rw[show (1000:Nat)=999+1 from rfl,rkL,if_pos hn],i2]
  exact Nat.lt_succ_self _
theorem Rt.fol {H:Hp} {ps:List Int} (R:Rt H ps):∀(n:Nat) (x:Int),rk H x≤n→wordIn H ps x=true→wordIn H ps (fol H x)=true∧toNote H (hp.fol H x)=false
 |n,x,hr,hx=>by
  cases e:toNote H x
  ·rw[fol_stop e];exact⟨hx,e⟩
  ·obtain⟨_,h2,_,h4,h5⟩:=R.note hx e
   rw[h4]
   match n,hr with
   |0,hr=>omega
   |n+1,hr=>exact R.fol n _ (by omega) h2
theorem Rt.followed {H:Hp} {ps:List Int} (R:Rt H ps) {x:Int} (hx:wordIn H ps x=true):wordIn H ps (hp.fol H x)=true∧toNote H (hp.fol H x)=false:=R.fol _ x (Nat.le_refl _) hx
end Go.Proofs.YtocidankimefpaaGreatDoor.hp
