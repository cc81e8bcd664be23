/-
  Chapter 9 as the program has it: the chunks of the rooms rise, and what slots tells of each. Chapter 9 as the program has it: whether a word leads into the room, whether a chunk has one that does. Chapter 9 as the program has it: whether a chunk sees the room, and what Seen must be. Chapter 9 as the
-/
import Derived.Test.YtocidankimefpaaGreatDoorM18
import Derived.Test.YtocidankimefpaaGreatDoorM16
import Derived.Test.YtocidankimefpaaGreatDoorM13
namespace Go.Proofs.YtocidankimefpaaGreatDoor.hp
open Go.RowKit rows heads words walks
set_option maxRecDepth 100000
set_option linter.unusedVariables false
theorem walkL_up (xs:List Int) (t:Nat) (ht:t≤xs.length):∀(n k:Nat) (l:List Int),walkL xs t n k=some l→l.Pairwise (· < ·):=by
 intro n
 induction n with
 |zero=>
  intro k l h
  unfold walkL at h
  split at h
  ·cases h
  ·cases h;exact List.Pairwise.nil
 |succ n ih=>
  intro k l h
  by_cases h1:k<t
  ·by_cases hb:chunk xs k=0∨(k:Int)+chunk xs k > t
   ·rw[walkL_bad _ _ _ _ h1 hb]at h;cases h
   ·rw[walkL_step _ _ _ _ h1 hb]at h
    obtain⟨l',hl',rfl⟩:=Option.map_eq_some_iff.1 h
    refine List.Pairwise.cons (fun x hx => ?_) (ih _ _ hl')
    obtain⟨j,e,b,_,_⟩:=walkL_mem xs t ht _ _ _ hl' x hx
    have:=chunk_bounds xs k
    omega
  ·rw[walkL_end _ _ _ _ h1]at h
   cases h;exact List.Pairwise.nil
theorem walked_up (xs:List Int) (f t:Int):(walked xs f t).Pairwise (· < ·)∧∀x ∈ walked xs f t,f≤x∧x<t∧0≤x:=by
 unfold walked walkR
 split
 ·rename_i hr
  simp only[rangeOk,Bool.and_eq_true,decide_eq_true_eq]at hr
  cases e:walkO xs f.toNat t.toNat with
  |none=>simp
  |some l=>
   refine⟨walkL_up xs t.toNat (by omega) _ _ _ e,fun x hx => ?_⟩
   obtain⟨j,a,b,c,d⟩:=walkL_mem xs t.toNat (by omega) _ _ _ e x (by simpa using hx)
   omega
 ·simp
theorem pdsOf_up {a:Option Addr} {xs:List Int} {ps:List Int} (h:ps.Pairwise (· < ·)) (h0:∀x ∈ ps,0≤x):(pdsOf a xs ps).Pairwise (fun d e=>d.pl<e.pl):=by
 unfold pdsOf
 rw[List.pairwise_map]
 refine h.imp_of_mem fun {x y} hx hy hxy => ?_
 have:=h0 x hx
 have:=h0 y hy
 show ((x.toNat:Nat):Int)<(y.toNat:Nat)
 omega
theorem riseP_of {ds:List Pd} (h:ds.Pairwise (fun d e=>d.pl<e.pl)):RiseP ds:=by
 intro i j hij hj
 have:=List.pairwise_iff_getElem.1 h i j (by omega) hj hij
 simpa [List.getD_eq_getElem?_getD,List.getElem?_eq_getElem hj,List.getElem?_eq_getElem (show i<ds.length by omega)] using this
theorem objs_rise {a:Option Addr} {H:Hp} (hn:numB H=true):RiseP (objsP a H):=by
 obtain⟨N⟩:=numN hn
 have h1:=walked_up H.row (frO H) (toO H)
 have h2:=walked_up H.row (2*H.half) (2*H.half+H.old)
 have et:toO H=frO H+H.top:=rfl
 refine riseP_of ?_
 unfold objsP
 rw[List.pairwise_append]
 refine⟨pdsOf_up h1.1 (fun x hx=>(h1.2 x hx).2.2),(pdsOf_up h2.1 (fun x hx=>(h2.2 x hx).2.2)).filter _,fun d hd e he => ?_⟩
 obtain⟨x,hx,rfl⟩:=List.mem_map.1 hd
 obtain⟨y,hy,rfl⟩:=List.mem_map.1 (List.mem_filter.1 he).1
 have q1:=h1.2 x hx
 have q2:=h2.2 y hy
 have:=N.lt
 have:=N.ef
 have:=N.et
 have:=N.eh
 show ((x.toNat:Nat):Int)<(y.toNat:Nat)
 omega
def cnP (d:Pd):Nat:=if d.f=7 then 1 else d.s.toNat
def slP (xs:List Int) (d:Pd):List Int:=(xs.drop (d.pl.toNat+1)).take (cnP d)
theorem chunk_fits {xs:List Int} {j:Nat} (h:chunk xs j≠0) (h6:uF (xs.getD j 0)≠6):0≤uS (xs.getD j 0)∧1+uS (xs.getD j 0)≤chunk xs j∧2≤chunk xs j∧(j:Int)+chunk xs j≤xs.length:=by
 obtain⟨s1,s2⟩:=uS_bounds (xs.getD j 0)
 have sb:=sz_bounds s1 s2
 have e:chunk xs j=sz (uS (xs.getD j 0)):=by
  unfold chunk at h ⊢
  by_cases h0:(ok (xs.getD j 0) && !uM (xs.getD j 0))=true
  ·rw[if_pos h0,if_neg h6]at h ⊢
   by_cases h3:(j:Int)+sz (uS (xs.getD j 0))≤xs.length∧(uF (xs.getD j 0)=7→isA (xs.getD (j+1) 0)=true)
   ·rw[if_pos h3]
   ·rw[if_neg h3]at h;exact absurd rfl h
  ·rw[if_neg h0]at h;exact absurd rfl h
 have b:=chunk_bounds xs j
 omega
def InRow (a:Option Addr) (xs:List Int) (d:Pd):Prop:=∃j:Nat,d=pdOf a xs j∧chunk xs j≠0∧uF (xs.getD j 0)≠6
theorem objs_in {a:Option Addr} {H:Hp} (hr:roomB a H=true):∀d ∈ objsP a H,InRow a H.row d:=by
 unfold roomB at hr
 simp only[Bool.and_eq_true,Bool.not_eq_true']at hr
 have hu:=hr.1.1.2
 intro d hd
 unfold objsP at hd
 rcases List.mem_append.1 hd with hd|hd
 ·have h6:=List.any_eq_false.1 hu d hd
  obtain⟨x,hx,rfl⟩:=List.mem_map.1 hd
  obtain⟨j,rfl,_,_,hc⟩:=walked_mem hx
  refine⟨j,by simp,hc,fun e=>h6 ?_⟩
  show ((uF (H.row.getD (j:Int).toNat 0)==6) || _)=true
  rw[Int.toNat_natCast,e]
  rfl
 ·obtain⟨hd,h6⟩:=List.mem_filter.1 hd
  obtain⟨x,hx,rfl⟩:=List.mem_map.1 hd
  obtain⟨j,rfl,_,_,hc⟩:=walked_mem hx
  refine⟨j,by simp,hc,fun e => ?_⟩
  have h6':(!(uF (H.row.getD (j:Int).toNat 0)==6))=true:=h6
  rw[Int.toNat_natCast,e]at h6'
  cases h6'
theorem cnP_of (a:Option Addr) (xs:List Int) (j:Nat):cnP (pdOf a xs j)=if uF (xs.getD j 0)=7 then 1 else (uS (xs.getD j 0)).toNat:=rfl
theorem inRow_slots {a:Option Addr} {xs:List Int} {d:Pd} (h:InRow a xs d):(d.pl.toNat:Int)+1+cnP d≤xs.length:=by
 obtain⟨j,rfl,hc,h6⟩:=h
 have q:=chunk_fits hc h6
 have hj:(pdOf a xs j).pl.toNat=j:=by simp[pdOf]
 rw[hj,cnP_of]
 by_cases h7:uF (xs.getD j 0)=7
 ·rw[if_pos h7];omega
 ·rw[if_neg h7];omega
theorem slots_in {w:World} {b off cap:Nat} {xs:List Int} (hx:IntsAt w (.slice (some ⟨b,off,none⟩) xs.length cap) xs) (hl:xs.length≤1000) {d:Pd} (hd:InRow (some ⟨b,off,none⟩) xs d) :
    Calls Tryz.prog 71 #[cv d.s d.f d.c d.h d.p d.m d.u] w fun e w'=>∃ua un uc,e = .returned (.slice ua un uc)∧IntsAt w' (.slice ua un uc) (slP xs d)∧Below w.heap.size w w':=by
 have hsl:=inRow_slots hd
 obtain⟨j,rfl,hc,h6⟩:=hd
 have q:=chunk_fits hc h6
 have eu:(pdOf (some ⟨b,off,none⟩) xs j).u = .slice (some ⟨b,off+j,none⟩) (chunk xs j).toNat (chunk xs j).toNat:=piece_at b off j _ (by omega)
 rw[eu]
 have hn:(if uF (xs.getD j 0)=7 then 1 else uS (xs.getD j 0))=((cnP (pdOf (some ⟨b,off,none⟩) xs j):Nat):Int):=by
  rw[cnP_of]
  by_cases h7:uF (xs.getD j 0)=7
  ·rw[if_pos h7];first|rw[if_pos h7];rfl|omega
  ·rw[if_neg h7];first|(rw[if_neg h7];omega)|omega
 have hle:1+cnP (pdOf (some ⟨b,off,none⟩) xs j)≤(chunk xs j).toNat:=by
  rw[cnP_of]
  by_cases h7:uF (xs.getD j 0)=7
  ·rw[if_pos h7];first|rw[if_pos h7];rfl|omega
  ·rw[if_neg h7];first|(rw[if_neg h7];omega)|omega
 refine (slots_any _ _ _ _ _ _ b (off+j) (chunk xs j).toNat (cnP (pdOf (some ⟨b,off,none⟩) xs j)) w (by omega) hn hle).mono ?_
 rintro e w' ⟨rfl,hb⟩
 have hp:IntsAt w (piece (some ⟨b,off+j,none⟩) 1 (cnP (pdOf (some ⟨b,off,none⟩) xs j))) (slP xs (pdOf (some ⟨b,off,none⟩) xs j)):=by
  unfold slP
  have hj:(pdOf (some ⟨b,off,none⟩) xs j).pl.toNat=j:=by simp[pdOf]
  rw[hj]at hsl ⊢
  by_cases h0:cnP (pdOf (some ⟨b,off,none⟩) xs j)=0
  ·rw[h0,piece_none,List.take_zero]
   exact⟨some ⟨b,off+j,none⟩,0,rfl,by simp,by decide,fun _=>rfl,fun h=>by simp at h⟩
  ·rw[piece_at b (off+j) 1 _ (by omega)]
   have:=piece_is hx (by omega) (j+1) (cnP (pdOf (some ⟨b,off,none⟩) xs j)) (by omega)
   rw[piece_at b off (j+1) _ (by omega)]at this
   rwa [show off+j+1=off+(j+1) by omega]
 exact⟨_,_,_,rfl,intsAt_below hp hb,hb⟩
theorem slotsP_of {w:World} {b off cap:Nat} {xs:List Int} (hx:IntsAt w (.slice (some ⟨b,off,none⟩) xs.length cap) xs) (hl:xs.length≤1000) (ha:AllI xs) {ds:List Pd} (hd:∀d ∈ ds,InRow (some ⟨b,off,none⟩) xs d):SlotsP w ds (slP xs) where
 call V hV i hi:=slots_in (intsAt_below hx hV) hl (hd _ (mem_getDP hi))
 len i hi:=by unfold slP;rw[List.length_take,List.length_drop];omega
 num i hi:=fun x hx'=>ha x (List.mem_of_mem_drop (List.mem_of_mem_take hx'))
end Go.Proofs.YtocidankimefpaaGreatDoor.hp
namespace Go.Proofs.YtocidankimefpaaGreatDoor.hp
open Go.RowKit rows heads words walks
set_option maxRecDepth 100000
set_option linter.unusedVariables false
set_option linter.unusedSimpArgs false
def yngW (up:Int) (x:Int):Bool:=isA x&&decide (av x<up)
theorem isYoung_any (up:Int) (a:Option Addr) (n c:Nat) (x:Int) (w:World) (b1 : -9223372036854775808≤x) (b2:x≤9223372036854775807) :
    Calls Tryz.prog 155 #[rmv up (.slice a n c),.int .i64 x] w fun e w'=>e = .returned (.bool (yngW up x))∧Below w.heap.size w w':=by
 have B0:Below w.heap.size w (w.alloc (rmb up (.slice a n c))):=(Below.refl _ _).alloc (Nat.le_refl _) _
 have HB0:Hid _:=B0
 have AO:=addrOf_any x (w.alloc (rmb up (.slice a n c))) b1 b2
 obtain⟨⟨k0,k1⟩,_⟩:=rmb_cells (heap_alloc_new w (rmb up (.slice a n c)))
 unfold yngW
 cases hA:isA x
 ·rw[hA]at AO
  generalize av x=ax at *
  clear B0 hA b1 b2
  go_enter Tryz.func155,Tryz.ntmps155
  go_upto_region 1 with fail
  generalize w.alloc (rmb up (.slice a n c))=X at *
  go_wp2_with (go_at_call 160;refine AO.mono ?_;clear AO;rintro e w3 ⟨rfl,hw3⟩;rw[hw3];clear hw3 w3)
  go_ret
  exact⟨rfl,HB0.out⟩
 ·rw[hA]at AO
  generalize av x=ax at *
  clear B0 hA b1 b2
  go_enter Tryz.func155,Tryz.ntmps155
  go_upto_region 1 with fail
  generalize w.alloc (rmb up (.slice a n c))=X at *
  go_wp2_with (go_at_call 160;refine AO.mono ?_;clear AO;rintro e w3 ⟨rfl,hw3⟩;rw[hw3];clear hw3 w3)
  go_ret
  exact⟨rfl,HB0.out⟩
def idxY (up:Int) (xs:List Int):Int:=match xs.findIdx? (yngW up) with|some i=>(i:Int)|none => -1
theorem idxY_at {up:Int} {xs:List Int} {k:Nat} (hk:k<xs.length) (h:yngW up (xs.getD k 0)=true) (hn:∀m,m<k→yngW up (xs.getD m 0)=false):idxY up xs=k:=by
 unfold idxY
 have e:xs.findIdx? (yngW up)=some k:=by
  rw[List.findIdx?_eq_some_iff_getElem]
  refine⟨hk,?_,fun j hj => ?_⟩
  ·simpa [List.getD_eq_getElem?_getD,List.getElem?_eq_getElem hk] using h
  ·have:=hn j hj
   simpa [List.getD_eq_getElem?_getD,List.getElem?_eq_getElem (show j<xs.length by omega)] using this
 rw[e]
theorem idxY_no {up:Int} {xs:List Int} (hn:∀m,m<xs.length→yngW up (xs.getD m 0)=false):idxY up xs = -1:=by
 unfold idxY
 have e:xs.findIdx? (yngW up)=none:=by
  rw[List.findIdx?_eq_none_iff]
  intro x hx
  obtain⟨m,hm,rfl⟩:=List.getElem_of_mem hx
  have:=hn m hm
  simpa [List.getD_eq_getElem?_getD,List.getElem?_eq_getElem hm] using this
 rw[e]
theorem idxY_any (up:Int) (xs:List Int):decide (idxY up xs ≥ 0)=xs.any (yngW up):=by
 unfold idxY
 cases e:xs.findIdx? (yngW up) with
 |none=>
  rw[List.findIdx?_eq_none_iff]at e
  have:xs.any (yngW up)=false:=by
   rw[List.any_eq_false]
   intro x hx h
   rw[e x hx]at h;cases h
  rw[this];decide
 |some i=>
  rw[List.findIdx?_eq_some_iff_getElem]at e
  obtain⟨hi,ht,_⟩:=e
  have:xs.any (yngW up)=true:=by
   rw[List.any_eq_true]
   exact⟨_,List.getElem_mem hi,ht⟩
  rw[this];simp
set_option maxHeartbeats 4000000 in
theorem indexYoung_any {w:World} {up:Int} {a:Option Addr} {n c:Nat} {u:Value} {xs:List Int} (h:IntsAt w u xs) (hl:xs.length≤1048576) (ha:AllI xs) :
    Calls Tryz.prog 119 #[u,.func (.func 155) #[rmv up (.slice a n c)] #[]] w fun e w'=>e = .returned (.int .i64 (idxY up xs))∧Below w.heap.size w w':=by
 have HI:Hid _:=h
 have HA:Hid _:=ha
 obtain⟨a2,cap2,rfl,_,_,_,_⟩:=h
 obtain⟨R,hR⟩:∃R,idxY up xs=R:=⟨_,rfl⟩
 rw[hR]
 have HR:Hid _:=hR
 clear hR ha
 go_enter Tryz.func119,Tryz.ntmps119
 go_wp2_with fail
 go_loopw [5,8] (fun _ q wr=>∃k:Nat,k≤xs.length∧q = .int .i64 (k:Int)∧(∀m,m<k→yngW up (xs.getD m 0)=false)∧Below w.heap.size w wr) (fun _ q _=>xs.length-(intOf q).toNat)
 case atStart=>exact⟨0,Nat.zero_le _,rfl,fun m hm=>by omega,Below.refl _ _⟩
 case round=>
  obtain⟨k,hk,rfl,hne,hB⟩:=hrel
  have HNE:Hid _:=hne
  have HB:Hid _:=hB
  by_cases hlt:k<xs.length
  ·obtain⟨b,off,ea,_,x0⟩:=ints_cellI (intsAt_below HI.out hB) hlt
   subst ea
   obtain⟨y,hy⟩:∃y,xs.getD k 0=y:=⟨_,rfl⟩
   have hyb:=HA.out y (by rw[←hy,List.getD_eq_getElem?_getD,List.getElem?_eq_getElem hlt];exact List.getElem_mem hlt)
   have CY:=isYoung_any up a n c y wr hyb.1 hyb.2
   have HF1:Hid (yngW up y=false→∀m,m<k+1→yngW up (xs.getD m 0)=false):=fun e m hm=>by
    by_cases e':m=k
    ·rw[e',hy];exact e
    ·exact HNE.out m (by omega)
   have HF2:Hid (yngW up y=true→R=k):=fun e=>HR.out.symm.trans (idxY_at hlt (by rw[hy];exact e) HNE.out)
   rw[hy]at x0
   have hlt':(k:Int)<(xs.length:Int):=by omega
   clear hne hB hyb hy
   cases hw:yngW up y
   ·rw[hw]at CY
    have HV:Hid _:=HF1.out hw
    clear hw HF1 HF2
    go_wp2_with (go_at_call 155;refine CY.mono ?_;clear CY;rintro e w3 ⟨rfl,b3⟩;have HB3:Hid _:=HB.out.trans (b3.mono HB.out.size);clear b3)
    exact⟨⟨k+1,by omega,by go_num,HV.out,HB3.out⟩,by simp[intOf];omega⟩
   ·rw[hw]at CY
    have HV:Hid _:=HF2.out hw
    clear hw HF1 HF2
    go_wp2_with (go_at_call 155;refine CY.mono ?_;clear CY;rintro e w3 ⟨rfl,b3⟩;have HB3:Hid _:=HB.out.trans (b3.mono HB.out.size);clear b3)
    go_ret
    exact⟨by rw[HV.out];rfl,HB3.out⟩
  ·have hlt':¬(k:Int)<(xs.length:Int):=by omega
   have HF:Hid (R = -1):=by show _=_;rw[←HR.out];exact idxY_no (fun m hm=>hne m (by omega))
   clear hne hB
   go_wp2
   go_ret
   exact⟨by rw[HF.out];rfl,HB.out⟩
theorem containsYoung_any {w:World} {up:Int} {a:Option Addr} {n c:Nat} {u:Value} {xs:List Int} (h:IntsAt w u xs) (hl:xs.length≤1048576) (ha:AllI xs) :
    Calls Tryz.prog 72 #[u,.func (.func 155) #[rmv up (.slice a n c)] #[]] w fun e w'=>e = .returned (.bool (xs.any (yngW up)))∧Below w.heap.size w w':=by
 have IX:=indexYoung_any (up:=up) (a:=a) (n:=n) (c:=c) h hl ha
 obtain⟨a2,cap2,rfl,_,_,_,_⟩:=h
 rw[←idxY_any]
 generalize idxY up xs=R at *
 clear ha
 go_enter Tryz.func72,Tryz.ntmps72
 go_wp2_with (go_at_call 119;refine IX.mono ?_;clear IX;rintro e w3 ⟨rfl,b3⟩;have HB3:Hid _:=b3;clear b3)
 go_ret
 exact⟨rfl,HB3.out⟩
set_option maxHeartbeats 8000000 in
theorem seesYoung_any {w:World} {up:Int} {a:Option Addr} {n c:Nat} {d:Pd} {xs:List Int} (hu:∃a n c,d.u = .slice a n c) (hl:xs.length≤1048576) (ha:AllI xs)
    (hS:∀V,Below w.heap.size w V→Calls Tryz.prog 71 #[cv d.s d.f d.c d.h d.p d.m d.u] V fun e w'=>∃ua un uc,e = .returned (.slice ua un uc)∧IntsAt w' (.slice ua un uc) xs∧Below V.heap.size V w') :
    Calls Tryz.prog 116 #[rmv up (.slice a n c),pdv d] w fun e w'=>e = .returned (.bool (xs.any (yngW up)))∧Below w.heap.size w w':=by
 obtain⟨ds',df,dc,dh,dp,dm,du,dl⟩:=d
 obtain⟨sa,sn,sc,hsv⟩:=hu
 simp only at hsv hS
 subst hsv
 obtain⟨P,hP⟩:∃P,xs.any (yngW up)=P:=⟨_,rfl⟩
 have B0:Below w.heap.size w (w.alloc (rmb up (.slice a n c))):=(Below.refl _ _).alloc (Nat.le_refl _) _
 have B1:=B0.alloc B0.size (pdb ⟨ds',df,dc,dh,dp,dm,.slice sa sn sc,dl⟩)
 have HALL:Hid (∀V,Below ((w.alloc (rmb up (.slice a n c))).alloc (pdb ⟨ds',df,dc,dh,dp,dm,.slice sa sn sc,dl⟩)).heap.size ((w.alloc (rmb up (.slice a n c))).alloc (pdb ⟨ds',df,dc,dh,dp,dm,.slice sa sn sc,dl⟩)) V→(V.cell? ⟨w.heap.size,0,none⟩=some (.int .i64 up)∧V.cell? ⟨w.heap.size,1,none⟩=some (.slice a n c))∧V.heap[w.heap.size+1]? = some (pdb ⟨ds',df,dc,dh,dp,dm,.slice sa sn sc,dl⟩)∧Below w.heap.size w V):=by
  intro V hV
  have T1:=heap_alloc_new (w.alloc (rmb up (.slice a n c))) (pdb ⟨ds',df,dc,dh,dp,dm,.slice sa sn sc,dl⟩)
  have T2:Below (w.heap.size+1) (w.alloc (rmb up (.slice a n c))) V:=((Below.refl _ _).alloc (by simp) _).trans (hV.mono (by simp))
  have q0:V.heap[w.heap.size]? = some (rmb up (.slice a n c)):=(T2.block _ (by omega)).trans (heap_alloc_new w _)
  have q1:V.heap[w.heap.size+1]? = some (pdb ⟨ds',df,dc,dh,dp,dm,.slice sa sn sc,dl⟩):=(hV.block (w.heap.size+1) (by simp)).trans ((congrArg (fun k=>((w.alloc (rmb up (.slice a n c))).alloc (pdb ⟨ds',df,dc,dh,dp,dm,.slice sa sn sc,dl⟩)).heap[k]?) (show w.heap.size+1=(w.alloc (rmb up (.slice a n c))).heap.size by simp)).trans T1)
  exact⟨(rmb_cells q0).1,q1,B1.trans (hV.mono B1.size)⟩
 have HC:Hid (∀V u,IntsAt V u xs→Calls Tryz.prog 72 #[u,.func (.func 155) #[rmv up (.slice a n c)] #[]] V fun e w'=>e = .returned (.bool P)∧Below V.heap.size V w'):=fun V u hI=>by
  have:=containsYoung_any (up:=up) (a:=a) (n:=n) (c:=c) hI hl ha
  rwa [hP]at this
 have HSC:Hid _:=hS
 rw[hP]
 clear hS B0 B1 hP ha
 go_enter Tryz.func116,Tryz.ntmps116
 go_upto_region 1 with fail
 generalize (w.alloc _).alloc _=X at *
 obtain⟨⟨z0,z1⟩,q1,bX⟩:=HALL.out X (Below.refl _ _)
 obtain⟨⟨p0,p1,p2,p3,p4,p5,p6,p7⟩,_⟩:=pdb_cells q1
 simp only at p0 p1 p2 p3 p4 p5 p6 p7
 clear q1 bX
 have HG:Hid (∀(V w':World),Below V.heap.size V w'→Below X.heap.size X V→(w'.cell? ⟨w.heap.size,0,none⟩=some (.int .i64 up)∧w'.cell? ⟨w.heap.size,1,none⟩=some (.slice a n c))∧Below w.heap.size w w'):=by
  intro V w' h1 h2
  have hX:Below X.heap.size X w':=h2.trans (h1.mono h2.size)
  obtain⟨hz,_,hw⟩:=HALL.out w' hX
  exact⟨hz,hw⟩
 have HGB:Hid (∀V,Below X.heap.size X V→Below w.heap.size w V):=fun V hV=>(HG.out X V hV (Below.refl _ _)).2
 clear HALL
 go_region_law (first
  |(go_simp;go_at_call 71;refine Calls.mono (HSC.out _ (HGB.out _ ⟨rfl,rfl,rfl,Nat.le_refl _,fun _ _=>rfl⟩)) ?_;rintro e w5 ⟨ua,un,uc,rfl,i5,b5⟩;obtain⟨⟨t0,t1⟩,y5⟩:=HG.out _ _ b5 ⟨rfl,rfl,rfl,Nat.le_refl _,fun _ _=>rfl⟩;have HI5:Hid _:=i5;have HW5:Hid _:=y5;clear HSC i5 y5 b5 HG HGB)
  |(go_simp;go_at_call 72;refine Calls.mono (HC.out _ _ HI5.out) ?_;rintro e w6 ⟨rfl,b6⟩;have HX6:Hid (Below w.heap.size w w6):=HW5.out.trans ((⟨b6.os,b6.tape,b6.output,b6.size,b6.block⟩:Below w5.heap.size w5 w6).mono HW5.out.size);clear HC b6))
 all_goals go_wp2
 all_goals go_ret
 all_goals exact⟨rfl,HX6.out⟩
theorem same_lists {xs ys:List Int} (hl:xs.length=ys.length) (h:∀m,m<xs.length→xs.getD m 0=ys.getD m 0):xs=ys:=by
 refine List.ext_getElem hl fun i h1 h2 => ?_
 have:=h i h1
 simpa [List.getD_eq_getElem?_getD,List.getElem?_eq_getElem h1,List.getElem?_eq_getElem h2] using this
set_option maxHeartbeats 4000000 in
theorem equal_any {w:World} {u v:Value} {xs ys:List Int} (h1:IntsAt w u xs) (h2:IntsAt w v ys) (l1:xs.length≤1048576) (l2:ys.length≤1048576) :
    Calls Tryz.prog 67 #[u,v] w fun e w'=>e = .returned (.bool (decide (xs=ys)))∧Below w.heap.size w w':=by
 have H1:Hid _:=h1
 have H2:Hid _:=h2
 obtain⟨a1,c1,rfl,_,_,_,_⟩:=h1
 obtain⟨a2,c2,rfl,_,_,_,_⟩:=h2
 obtain⟨R,hR⟩:∃R,decide (xs=ys)=R:=⟨_,rfl⟩
 rw[hR]
 have HR:Hid _:=hR
 clear hR
 by_cases hl:xs.length=ys.length
 ·have HLN:Hid _:=hl
  have hle:(((xs.length:Int) != (ys.length:Int)))=false:=by simp[hl]
  have hle2:((xs.length:Int)==(ys.length:Int))=true:=by simp[hl]
  clear hl
  go_enter Tryz.func67,Tryz.ntmps67
  go_wp2_with fail
  go_loopw [5,13] (fun _ q wr=>∃k:Nat,k≤xs.length∧q = .int .i64 (k:Int)∧(∀m,m<k→xs.getD m 0=ys.getD m 0)∧Below w.heap.size w wr) (fun _ q _=>xs.length-(intOf q).toNat)
  case atStart=>exact⟨0,Nat.zero_le _,rfl,fun m hm=>by omega,Below.refl _ _⟩
  case round=>
   obtain⟨k,hk,rfl,hall,hB⟩:=hrel
   have HB:Hid _:=hB
   have HAL:Hid _:=hall
   by_cases hlt:k<xs.length
   ·have hlt2:k<ys.length:=by have:=HLN.out;omega
    obtain⟨b,off,ea,_,x0⟩:=ints_cellI (intsAt_below H1.out hB) hlt
    subst ea
    obtain⟨b',off',ea,_,y0⟩:=ints_cellI (intsAt_below H2.out hB) hlt2
    subst ea
    have hlt':(k:Int)<(xs.length:Int):=by omega
    have hlt2':(k:Int)<(ys.length:Int):=by omega
    obtain⟨x,hx⟩:∃x,xs.getD k 0=x:=⟨_,rfl⟩
    obtain⟨y,hy⟩:∃y,ys.getD k 0=y:=⟨_,rfl⟩
    rw[hx]at x0
    rw[hy]at y0
    have HF:Hid (¬x=y→R=false):=fun e=>by
     rw[←HR.out,decide_eq_false_iff_not]
     rintro rfl
     exact e (hx.symm.trans hy)
    have HV:Hid (x=y→∀m,m<k+1→xs.getD m 0=ys.getD m 0):=fun e m hm=>by
     by_cases e':m=k
     ·rw[e',hx,hy];exact e
     ·exact HAL.out m (by omega)
    clear hall hB hx hy
    by_cases hxy:x=y
    ·have HV0:Hid _:=HV.out hxy
     have e1:(x != y)=false:=by simp[hxy]
     have e2:(x==y)=true:=by simp[hxy]
     clear HV HF hxy
     go_upto_region 6 with fail
     go_quiet (fail)
     have HBD:Hid (Below w.heap.size w (wr.drewN nq)):=HB.out.trans ((bel_of_drewN ⟨_,rfl⟩:Below wr.heap.size wr (wr.drewN nq)).mono HB.out.size)
     clear x0 y0
     generalize wr.drewN nq=Z at *
     go_wp2
     exact⟨⟨k+1,by omega,by go_num,HV0.out,HBD.out⟩,by simp[intOf];omega⟩
    ·have HF0:Hid _:=HF.out hxy
     have e1:(x != y)=true:=by simp[hxy]
     have e2:(x==y)=false:=by simp[hxy]
     clear HV HF hxy
     go_upto_region 6 with fail
     go_quiet (fail)
     have HBD:Hid (Below w.heap.size w (wr.drewN nq)):=HB.out.trans ((bel_of_drewN ⟨_,rfl⟩:Below wr.heap.size wr (wr.drewN nq)).mono HB.out.size)
     clear x0 y0
     generalize wr.drewN nq=Z at *
     go_wp2
     go_ret
     exact⟨by rw[HF0.out];rfl,HBD.out⟩
   ·have hlt':¬(k:Int)<(xs.length:Int):=by omega
    have HF:Hid (R=true):=by show _=_;rw[←HR.out,decide_eq_true_eq];exact same_lists HLN.out (fun m hm=>hall m (by omega))
    clear hall hB
    go_wp2
    go_ret
    exact⟨by rw[HF.out];rfl,HB.out⟩
 ·have HF:Hid (R=false):=by
    show _=_
    rw[←HR.out,decide_eq_false_iff_not]
    rintro rfl
    exact hl rfl
  have hle:(((xs.length:Int) != (ys.length:Int)))=true:=by simp;omega
  have hle2:((xs.length:Int)==(ys.length:Int))=false:=by simp;omega
  clear hl
  go_enter Tryz.func67,Tryz.ntmps67
  go_wp2
  go_ret
  exact⟨by rw[HF.out];rfl,Below.refl _ _⟩
set_option maxHeartbeats 4000000 in
theorem allLead_any {w:World} {u:Value} {xs:List Int} (h:IntsAt w u xs) (hl:xs.length≤1048576) (ha:AllI xs) :
    Calls Tryz.prog 154 #[u] w fun e w'=>e = .returned (.bool (xs.all isA))∧w'=w:=by
 have HI:Hid _:=h
 have HA:Hid _:=ha
 obtain⟨a2,cap2,rfl,_,_,_,_⟩:=h
 obtain⟨R,hR⟩:∃R,xs.all isA=R:=⟨_,rfl⟩
 rw[hR]
 have HR:Hid _:=hR
 clear hR ha
 go_enter Tryz.func154,Tryz.ntmps154
 go_wp2_with fail
 go_loopw [4,7] (fun _ q wr=>∃k:Nat,k≤xs.length∧q = .int .i64 (k:Int)∧(∀m,m<k→isA (xs.getD m 0)=true)∧wr=w) (fun _ q _=>xs.length-(intOf q).toNat)
 case atStart=>exact⟨0,Nat.zero_le _,rfl,fun m hm=>by omega,rfl⟩
 case round=>
  obtain⟨k,hk,rfl,hall,hw⟩:=hrel
  subst hw
  have HAL:Hid _:=hall
  by_cases hlt:k<xs.length
  ·obtain⟨b,off,ea,_,x0⟩:=ints_cellI HI.out hlt
   subst ea
   obtain⟨y,hy⟩:∃y,xs.getD k 0=y:=⟨_,rfl⟩
   have hmem:y ∈ xs:=by rw[←hy,List.getD_eq_getElem?_getD,List.getElem?_eq_getElem hlt];exact List.getElem_mem hlt
   have hyb:=HA.out y hmem
   have CY:=isAddr_any y wr hyb.1 hyb.2
   have HF1:Hid (isA y=true→∀m,m<k+1→isA (xs.getD m 0)=true):=fun e m hm=>by
    by_cases e':m=k
    ·rw[e',hy];exact e
    ·exact HAL.out m (by omega)
   have HF2:Hid (isA y=false→R=false):=fun e=>by
    rw[←HR.out,List.all_eq_false]
    exact⟨y,hmem,by rw[e];decide⟩
   rw[hy]at x0
   have hlt':(k:Int)<(xs.length:Int):=by omega
   clear hall hyb hy hmem
   cases hw:isA y
   ·rw[hw]at CY
    have HV:Hid _:=HF2.out hw
    clear hw HF1 HF2
    go_wp2_with (go_at_call 182;refine CY.mono ?_;clear CY;rintro e w3 ⟨rfl,hw3⟩;rw[hw3];clear hw3 w3)
    go_ret
    exact⟨by rw[HV.out];rfl,rfl⟩
   ·rw[hw]at CY
    have HV:Hid _:=HF1.out hw
    clear hw HF1 HF2
    go_wp2_with (go_at_call 182;refine CY.mono ?_;clear CY;rintro e w3 ⟨rfl,hw3⟩;rw[hw3];clear hw3 w3)
    exact⟨⟨k+1,by omega,by go_num,HV.out,by trivial⟩,by simp[intOf];omega⟩
  ·have hlt':¬(k:Int)<(xs.length:Int):=by omega
   have HF:Hid (R=true):=by
    show _=_
    rw[←HR.out,List.all_eq_true]
    intro x hx
    obtain⟨m,hm,rfl⟩:=List.getElem_of_mem hx
    have:=hall m (by omega)
    rwa [List.getD_eq_getElem?_getD,List.getElem?_eq_getElem hm]at this
   clear hall
   go_wp2
   go_ret
   exact⟨by rw[HF.out];rfl,rfl⟩
def mustB (up:Int) (sl:Pd→List Int) (d:Pd):Bool:=decide (up≤d.pl)&&(sl d).any (yngW up)
def mustL (up:Int) (sl:Pd→List Int) (ds:List Pd):List Int:=(ds.filter (mustB up sl)).map (·.pl)
theorem mustL_next {up:Int} {sl:Pd→List Int} {ds:List Pd} {k:Nat} (hk:k<ds.length):mustL up sl (ds.take (k+1))=mustL up sl (ds.take k)++(if mustB up sl (ds.getD k pdD)=true then [(ds.getD k pdD).pl] else []):=by
 unfold mustL
 rw[List.take_add_one,List.filter_append,List.map_append,List.getElem?_eq_getElem hk,List.getD_eq_getElem?_getD,List.getElem?_eq_getElem hk]
 simp only[Option.toList_some,Option.getD_some]
 congr 1
 cases h:mustB up sl ds[k]<;>simp[h]
theorem mustL_len (up:Int) (sl:Pd→List Int) (ds:List Pd):(mustL up sl ds).length≤ds.length:=by
 unfold mustL
 rw[List.length_map]
 exact List.length_filter_le _ _
set_option maxHeartbeats 8000000 in
theorem mustSee_any {w:World} {up:Int} {v:Value} {ds:List Pd} {sl:Pd→List Int} (h:PdsAt w v ds) (hs:SlicesP ds) (hl:ds.length≤1048576) (hS:SlotsP w ds sl) :
    Calls Tryz.prog 68 #[rmv up v] w fun e w'=>∃u,e = .returned u∧rows.Own w' w.heap.size u (mustL up sl ds)∧Below w.heap.size w w':=by
 obtain⟨i0,hi,hz0,hz1,hz2⟩:=info_parts info
 have HI:Hid _:=And.intro hi (And.intro hz0 (And.intro hz1 hz2))
 obtain⟨a,cap,rfl⟩:=pds_slice h
 have HP:Hid _:=h
 have HSL:Hid _:=hs
 have B0:Below w.heap.size w (w.alloc (rmb up (.slice a ds.length cap))):=(Below.refl _ _).alloc (Nat.le_refl _) _
 have HALL:Hid (∀V,Below (w.alloc (rmb up (.slice a ds.length cap))).heap.size (w.alloc (rmb up (.slice a ds.length cap))) V→(V.cell? ⟨w.heap.size,0,none⟩=some (.int .i64 up)∧V.cell? ⟨w.heap.size,1,none⟩=some (.slice a ds.length cap))∧Below w.heap.size w V):=by
  intro V hV
  have q0:V.heap[w.heap.size]? = some (rmb up (.slice a ds.length cap)):=(hV.block _ (by simp)).trans (heap_alloc_new w _)
  exact⟨(rmb_cells q0).1,B0.trans (hV.mono B0.size)⟩
 have HSP:Hid _:=hS
 have sW:w.heap.size≤(w.alloc (rmb up (.slice a ds.length cap))).heap.size:=by simp
 clear h hs B0 hS hi hz0 hz1 hz2
 go_enter Tryz.func68,Tryz.ntmps68
 go_upto_region 1 with fail
 generalize w.alloc (rmb up (.slice a ds.length cap))=X at *
 have HOO:Hid _:=own_nothing X X.heap.size (Nat.le_refl _)
 have BX:Below X.heap.size X (X.alloc (.cells #[] 2)):=(Below.refl _ _).alloc (Nat.le_refl _) _
 have HBX:Hid _:=BX
 obtain⟨⟨z0,z1⟩,_⟩:=HALL.out _ BX
 clear BX
 go_wp2_with fail
 clear z0 z1
 go_loopw [3,5,10] (fun u _ q wr=>∃(k:Nat) (u0:Value),u0=u∧k≤ds.length∧q = .int .i64 (k:Int)∧rows.Own wr X.heap.size u0 (mustL up sl (ds.take k))∧Below X.heap.size X wr) (fun _ _ q _=>ds.length-(intOf q).toNat)
 case atStart=>exact⟨0,_,rfl,Nat.zero_le _,rfl,HOO.out,HBX.out⟩
 case round=>
  obtain⟨k,u0,rfl,hk,rfl,hO,hB⟩:=hrel
  have HB:Hid _:=hB
  obtain⟨⟨z0,z1⟩,bw⟩:=HALL.out wr hB
  have HO:Hid _:=hO
  have sr:=hB.size
  by_cases hlt:k<ds.length
  ·obtain⟨b,off,ea,hbl,k0,k1,k2,k3,k4,k5,k6,k7⟩:=pds_cell (pdsAt_below HP.out bw) hlt
   subst ea
   obtain⟨sa,sn,sc,hsv⟩:=HSL.out _ (mem_getDP hlt)
   have hlt':(k:Int)<(ds.length:Int):=by omega
   have SC:=fun V hV=>HSP.out.call V hV k hlt
   have sl1:=HSP.out.len k hlt
   have sl2:=HSP.out.num k hlt
   have HN:Hid _:=mustL_next (up:=up) (sl:=sl) hlt
   obtain⟨d,hd⟩:∃d,ds.getD k pdD=d:=⟨_,rfl⟩
   rw[hd]at k0 k1 k2 k3 k4 k5 k6 k7 hsv sl1 sl2
   simp only[hd]at SC HN
   obtain⟨xs,hxs⟩:∃xs,sl d=xs:=⟨_,rfl⟩
   rw[hxs]at sl1 sl2
   simp only[hxs]at SC
   have hmb:mustB up sl d=(decide (up≤d.pl)&&xs.any (yngW up)):=by unfold mustB;rw[hxs]
   rw[hmb]at HN
   obtain⟨ds',df,dc,dh,dp,dm,du,dl⟩:=d
   simp only at k0 k1 k2 k3 k4 k5 k6 k7 hsv SC HN
   subst hsv
   clear hmb hxs hd hO hB
   have BY:Below wr.heap.size wr (wr.alloc (pdb ⟨ds',df,dc,dh,dp,dm,.slice sa sn sc,dl⟩)):=(Below.refl _ _).alloc (Nat.le_refl _) _
   have CS:=seesYoung_any (w:=wr.alloc (pdb ⟨ds',df,dc,dh,dp,dm,.slice sa sn sc,dl⟩)) (up:=up) (a:=some ⟨b,off,none⟩) (n:=ds.length) (c:=cap) (d:=⟨ds',df,dc,dh,dp,dm,.slice sa sn sc,dl⟩) (xs:=xs) ⟨_,_,_,rfl⟩ sl1 sl2 (fun V hV=>SC V (bw.trans ((BY.trans (hV.mono BY.size)).mono bw.size)))
   obtain⟨⟨p0,p1,p2,p3,p4,p5,p6,p7⟩,_⟩:=pdb_cells (heap_alloc_new wr (pdb ⟨ds',df,dc,dh,dp,dm,.slice sa sn sc,dl⟩))
   simp only at p0 p1 p2 p3 p4 p5 p6 p7
   have HBY:Hid _:=BY
   obtain⟨P,hP⟩:∃P,xs.any (yngW up)=P:=⟨_,rfl⟩
   rw[hP]at CS HN
   clear hP SC sl1 sl2 bw z0 z1 BY
   go_upto_region 5 with fail
   clear k0 k1 k2 k3 k4 k5 k6 k7
   have sY:wr.heap.size<(wr.alloc (pdb ⟨ds',df,dc,dh,dp,dm,.slice sa sn sc,dl⟩)).heap.size:=by simp
   have HY:Hid (Below X.heap.size X (wr.alloc (pdb ⟨ds',df,dc,dh,dp,dm,.slice sa sn sc,dl⟩))):=HB.out.trans (HBY.out.mono HB.out.size)
   have HOY:Hid (rows.Own (wr.alloc (pdb ⟨ds',df,dc,dh,dp,dm,.slice sa sn sc,dl⟩)) X.heap.size u0 (mustL up sl (ds.take k))):=own_below HO.out HBY.out
   obtain⟨⟨z0,z1⟩,_⟩:=HALL.out _ HY.out
   generalize wr.alloc (pdb ⟨ds',df,dc,dh,dp,dm,.slice sa sn sc,dl⟩)=Y at *
   by_cases hge:dl ≥ up
   ·have hle:up≤dl:=hge
    rw[decide_eq_true hle,Bool.true_and]at HN
    cases P
    ·rw[if_neg (by decide),List.append_nil]at HN
     go_wp2_with (go_at_call 116;refine CS.mono ?_;clear CS p0 p1 p2 p3 p4 p5 p6 p7 z0 z1;rintro e w5 ⟨rfl,b5⟩;have HB5:Hid _:=b5;clear b5)
     exact⟨⟨k+1,_,rfl,by omega,by go_num,by rw[HN.out];exact own_below HOY.out HB5.out,HY.out.trans (HB5.out.mono HY.out.size)⟩,by simp[intOf];omega⟩
    ·rw[if_pos rfl]at HN
     obtain⟨qs,hqs⟩:∃qs,mustL up sl (ds.take k)=qs:=⟨_,rfl⟩
     have hql:qs.length≤1048576:=by rw[←hqs];exact Nat.le_trans (mustL_len _ _ _) (by simp;omega)
     rw[hqs]at HN HOY
     clear hqs HO
     obtain⟨va,vcp,rfl,_,_,_,_⟩:=own_ints HOY.out
     have HSTEP:Hid (∀(w5:World),Below Y.heap.size Y w5→∀(v':Value) (w6:World),w6.ownsRow X.heap.size 2 1 v' (qs.length+1) (cellsOf qs++[.int .i64 dl])→(w5.alloc (.cells #[.int .i64 dl] 2)).grownBy w6 (Value.slice va qs.length vcp).ownBlock→(v'.ownBlock=(Value.slice va qs.length vcp).ownBlock∨v'.ownBlock=some (w5.alloc (.cells #[.int .i64 dl] 2)).heap.size)→(∃a n c,v' = .slice a n c)∧rows.Own w6 X.heap.size v' (mustL up sl (ds.take (k+1)))∧Below X.heap.size X w6):=fun w5 b5 v' w6 h1 h2 h3=>by
      obtain⟨on,gr,nb⟩:=app_int h1 h2 h3
      rw[HN.out]
      obtain⟨a',c',e',_⟩:=own_ints on
      have B5:=HY.out.trans (b5.mono HY.out.size)
      exact⟨⟨_,_,_,e'⟩,on,below_grown B5 gr (own_lt (own_below HOY.out b5)) B5.size⟩
     go_wp2_with (first
      |(go_at_call 116;refine CS.mono ?_;clear CS z0 z1;rintro e w5 ⟨rfl,b5⟩;have p7':=(b5.cell (p:=⟨wr.heap.size,7,none⟩) sY).trans p7;have HOA:Hid (rows.Own (w5.alloc (.cells #[.int .i64 dl] 2)) X.heap.size (.slice va qs.length vcp) qs):=World.ownsRow.alloc (own_below HOY.out b5) _;have hba:X.heap.size≤(w5.alloc (.cells #[.int .i64 dl] 2)).heap.size:=(by have:=b5.size;have:=HY.out.size;simp;omega);have HNW:Hid _:=one_int w5 dl;have HST5:Hid _:=HSTEP.out w5 b5;clear p0 p1 p2 p3 p4 p5 p6 p7 b5 HSTEP)
      |(refine wpList_append_own_at _ rfl (.tmp 24) (.tmp 27) 22 rfl X.heap.size 2 i0 (.int .i64 0) 1 8 Tryz.underlying22 HI.out.1 HI.out.2.1 HI.out.2.2.1 HI.out.2.2.2 rfl (by decide) (.slice va qs.length vcp) qs.length (cellsOf qs) rfl HOA.out ⟨w5.heap.size,0,none⟩ 1 1 [.int .i64 dl] rfl rfl HNW.out (by simp[Value.oneCell']) (by unfold maxLen;omega) (by omega) hba ?_;intro v' w6 hown hgrow _ hat;obtain⟨⟨va',vn',vc',rfl⟩,st⟩:=HST5.out v' w6 hown hgrow hat;have HST:Hid _:=st;clear st hown hgrow hat))
     exact⟨⟨k+1,_,rfl,by omega,by go_num,HST.out⟩,by simp[intOf];omega⟩
   ·have hle:¬up≤dl:=hge
    rw[decide_eq_false hle,Bool.false_and,if_neg (by decide),List.append_nil]at HN
    clear CS
    go_wp2
    exact⟨⟨k+1,_,rfl,by omega,by go_num,by rw[HN.out];exact HOY.out,HY.out⟩,by simp[intOf];omega⟩
  ·have e:k=ds.length:=by omega
   subst e
   rw[List.take_length]at hO
   have HF:Hid _:=hO
   have HBW:Hid _:=bw
   have hlt':¬(ds.length:Int)<(ds.length:Int):=by omega
   clear hO hB bw z0 z1
   go_wp2
   go_ret
   exact⟨_,rfl,own_base HF.out sW,HBW.out⟩
end Go.Proofs.YtocidankimefpaaGreatDoor.hp
