/-
  Chapter 10 as lists: what a word leads to, notes followed. Chapter 9 as the specification has it: the places of all objects. Chapter 10 as lists: a heap made straight. Chapter 10 as the specification has it: Follow. Chapter 10 as the specification has it: following in a heap that is partly made stra
-/
import Derived.Test.YtemlagfaaibenaaGreatM11
import Derived.Test.YtemlagfaaibenaaGreatM7
import Derived.Deep.RegionLaw
import Derived.Test.YtemlagfaaibenaaGreatHeapS7
import Derived.Test.YtemlagfaaibenaaGreatM4
namespace Go.Proofs.YtemlagfaaibenaaGreat.hp
open Go.RowKit rows heads words walks
set_option maxRecDepth 100000
set_option linter.unusedVariables false
def toNote (H:Hp) (x:Int):Bool:=isA x&&ntH H (av x)
def noteW (H:Hp) (x:Int):Int:=H.row.getD ((av x).toNat+1) 0
def folL (H:Hp):Nat→Int→Int
 |0,x=>x
 |n+1,x=>if toNote H x=true then folL H n (noteW H x) else x
def rkL (H:Hp):Nat→Int→Nat
 |0,_=>0
 |n+1,x=>if toNote H x=true then rkL H n (noteW H x)+1 else 0
def fol (H:Hp) (x:Int):Int:=folL H 1000 x
def rk (H:Hp) (x:Int):Nat:=rkL H 1000 x
theorem fol_stop {H:Hp} {x:Int} (h:toNote H x=false):fol H x=x:=by
 unfold fol folL
 rw[if_neg (by rw[h];decide)]
theorem nx_note (H:Hp) (x:Int):nxH H (av x)=av (noteW H x):=rfl
theorem folL_more (H:Hp):∀(n:Nat) (x:Int),(isA x=true→ends (ntH H) (nxH H) n (av x)=true)→folL H n x=folL H (n+1) x∧rkL H n x=rkL H (n+1) x
 |0,x,h=>by
  have:toNote H x=false:=by
   unfold toNote
   cases e:isA x
   ·rfl
   ·cases h e
  unfold folL rkL
  rw[if_neg (by rw[this];decide),if_neg (by rw[this];decide)]
  exact⟨rfl,rfl⟩
 |n+1,x,h=>by
  cases e:toNote H x
  ·have e0:¬toNote H x=true:=by rw[e];decide
   constructor
   ·rw[folL,if_neg e0,folL,if_neg e0]
   ·rw[rkL,if_neg e0,rkL,if_neg e0]
  ·have e':=e
   unfold toNote at e'
   rw[Bool.and_eq_true]at e'
   have h1:=h e'.1
   unfold ends at h1
   rw[if_pos e'.2,nx_note]at h1
   obtain⟨i1,i2⟩:=folL_more H n (noteW H x) (fun _=>h1)
   constructor
   ·rw[folL,if_pos e,folL,if_pos e,i1]
   ·rw[rkL,if_pos e,rkL,if_pos e,i2]
structure Rt (H:Hp) (ps:List Int):Prop where
 some':placesR H=some ps
 plc:∀p ∈ ps,∃j:Nat,p=j∧j<H.row.length∧chunk H.row j≠0
 notes:Notes H ps
 fin:∀p ∈ ps,ends (ntH H) (nxH H) 1000 p=true
 slots:slotsOk H ps=true
 roots:H.roots.all (wordIn H ps)=true
 mourned:mournOk H ps=true
theorem rt_of {H:Hp} (h:rightB H=true):∃ps,Rt H ps:=by
 obtain⟨ps,hps⟩:=right_some h
 unfold rightB at h
 rw[hps]at h
 simp only[Bool.and_eq_true]at h
 obtain⟨⟨⟨h1,h2⟩,h3⟩,h4⟩:=h
 obtain⟨hp,hl⟩:=places_plc hps
 have hN:=notes_of hp h1
 refine⟨ps,hps,hp,hN,fun p hpp => ?_,h1,h3,h4⟩
 exact (fins_iff (notes_next hN) hpp (by omega)).2 ((endsOk_is hN).1 h2 p hpp)
theorem Rt.len {H:Hp} {ps:List Int} (R:Rt H ps):H.row.length≤1000:=by
 have N:=(places_facts R.some').1
 have:=N.len
 have:=N.half1
 have:=N.old1
 omega
theorem ok_right {H:Hp} (h:heapOk H=true):rightB H=true∧H.seen=seenL H:=by
 unfold heapOk at h
 rw[Bool.and_eq_true,decide_eq_true_eq]at h
 exact h
theorem word_place {H:Hp} {ps:List Int} {x:Int} (h:wordIn H ps x=true) (hA:isA x=true):av x ∈ ps∧uF (H.row.getD (av x).toNat 0)≠6:=by
 unfold wordIn at h
 rw[hA]at h
 simpa using (by simpa using h:isW x=true∧_).2
theorem Rt.note {H:Hp} {ps:List Int} (R:Rt H ps) {x:Int} (hx:wordIn H ps x=true) (hn:toNote H x=true):(av x).toNat+1<H.row.length∧wordIn H ps (noteW H x)=true∧isA (noteW H x)=true∧fol H x=fol H (noteW H x)∧rk H (noteW H x)<rk H x:=by
 have hn':=hn
 unfold toNote at hn'
 rw[Bool.and_eq_true]at hn'
 obtain⟨hA,hnt⟩:=hn'
 obtain⟨hm,_⟩:=word_place hx hA
 have h7:uF (H.row.getD (av x).toNat 0)=7:=by simpa [ntH] using hnt
 obtain⟨n1,n2,n3⟩:=R.notes _ hm h7
 have hf:=R.fin _ hm
 have hf':ends (ntH H) (nxH H) 999 (av (noteW H x))=true:=by
  unfold ends at hf
  rw[if_pos hnt,nx_note]at hf
  exact hf
 obtain⟨i1,i2⟩:=folL_more H 999 (noteW H x) (fun _=>hf')
 refine⟨n1,?_,n2,?_,?_⟩
 ·have hs:=R.slots
  unfold slotsOk at hs
  rw[List.all_eq_true]at hs
  have h1:=hs _ hm
  rw[List.all_eq_true]at h1
  refine h1 _ ?_
  unfold slotsOf cnS noteW
  rw[if_pos h7,List.mem_iff_getElem?]
  refine⟨0,?_⟩
  rw[List.getElem?_take,if_pos (by decide),List.getElem?_drop,Nat.add_zero,List.getElem?_eq_getElem n1,List.getD_eq_getElem?_getD,List.getElem?_eq_getElem n1];rfl
 ·show folL H 1000 x=folL H 1000 (noteW H x)
  rw[show (1000:Nat)=999+1 from rfl,folL,if_pos hn,i1]
 ·show rkL H 1000 (noteW H x)<rkL H 1000 x
  rw[show rkL H 1000 x=rkL H 999 (noteW H x)+1 by rw[show (1000:Nat)=999+1 from rfl,rkL,if_pos hn],i2]
  exact Nat.lt_succ_self _
theorem Rt.fol {H:Hp} {ps:List Int} (R:Rt H ps):∀(n:Nat) (x:Int),rk H x≤n→wordIn H ps x=true→wordIn H ps (fol H x)=true∧toNote H (hp.fol H x)=false
 |n,x,hr,hx=>by
  cases e:toNote H x
  ·rw[fol_stop e];exact⟨hx,e⟩
  ·obtain⟨_,h2,_,h4,h5⟩:=R.note hx e
   rw[h4]
   match n,hr with
   |0,hr=>omega
   |n+1,hr=>exact R.fol n _ (by omega) h2
theorem Rt.followed {H:Hp} {ps:List Int} (R:Rt H ps) {x:Int} (hx:wordIn H ps x=true):wordIn H ps (hp.fol H x)=true∧toNote H (hp.fol H x)=false:=R.fol _ x (Nat.le_refl _) hx
end Go.Proofs.YtemlagfaaibenaaGreat.hp
namespace Go.Proofs.YtemlagfaaibenaaGreat.hp
open Go.RowKit rows heads words walks region
set_option maxRecDepth 100000
set_option linter.unusedVariables false
set_option linter.unusedSimpArgs false
def isO (H:Hp) (p:Int):Bool:= !(uF (H.row.getD p.toNat 0)==6)
def objL (H:Hp) (ps:List Int):List Int:=ps.filter (isO H)
theorem places_rising {H:Hp} {ps:List Int} (h:placesR H=some ps):Rising ps:=by
 obtain⟨N,_,r,u,hr,hu,_,rfl⟩:=places_facts h
 have hl:=N.len
 have h3:=N.room
 have m1:∀p ∈ r,p<2*(hf H:Int):=fun p hp=>by
  obtain⟨j,e,_,b,_⟩:=walkO_mem (by omega) hr hp
  omega
 have m2:∀p ∈ u,2*(hf H:Int)≤p:=fun p hp=>by
  obtain⟨j,e,b,_,_⟩:=walkO_mem (by omega) hu hp
  omega
 unfold Rising
 rw[List.pairwise_append]
 refine⟨walkO_rising hr,walkO_rising hu,fun a ha b hb => ?_⟩
 have:=m1 a ha
 have:=m2 b hb
 omega
theorem objL_next {H:Hp} {ps:List Int} {k:Nat} (hk:k<ps.length):objL H (ps.take (k+1))=objL H (ps.take k)++(if isO H (ps.getD k 0)=true then [ps.getD k 0] else []):=by
 unfold objL
 rw[List.take_add_one,List.filter_append,List.getElem?_eq_getElem hk,List.getD_eq_getElem?_getD,List.getElem?_eq_getElem hk]
 simp only[Option.toList_some,Option.getD_some]
 congr 1
 cases h:isO H ps[k]<;>simp[h]
theorem objL_put {H:Hp} {ps:List Int} (hr:Rising ps) {k:Nat} (hk:k<ps.length) (h:isO H (ps.getD k 0)=true):putI (ps.getD k 0) (objL H (ps.take k))=objL H (ps.take (k+1)):=by
 rw[objL_next hk,if_pos h]
 refine putI_last (fun x hx => ?_)
 exact rising_take hr hk x (List.mem_filter.1 hx).1
theorem objL_len (H:Hp) (ps:List Int):(objL H ps).length≤ps.length:=List.length_filter_le _ _
set_option maxHeartbeats 16000000 in
theorem l9Objects_any {w:World} {vr vo vm vs:Value} {H:Hp} (h:HpAt w vr vo vm vs H) {ps:List Int} (hps:placesR H=some ps) :
    Calls Tryz.prog 55 #[hpv H vr vo vm vs] w fun e w'=>∃v',e = .returned v'∧rows.Own w' w.heap.size v' (objL H ps)∧Below w.heap.size w w':=by
 obtain⟨hplc,hpl⟩:=places_plc hps
 have HPC:Hid _:=hplc
 have HRis:Hid _:=places_rising hps
 obtain⟨a1,c1,a2,c2,a3,c3,a4,c4,e1,e2,e3,e4⟩:=hpAt_slices h
 subst e1 e2 e3 e4
 have B0:Below w.heap.size w ((w.alloc (hpb H (.slice a1 H.row.length c1) (.slice a2 H.roots.length c2) (.slice a3 H.mourned.length c3) (.slice a4 H.seen.length c4))).alloc (.cells #[] 2)):=((Below.refl _ _).alloc (Nat.le_refl _) _).alloc (by simp) _
 have HO0:Hid (rows.Own ((w.alloc (hpb H (.slice a1 H.row.length c1) (.slice a2 H.roots.length c2) (.slice a3 H.mourned.length c3) (.slice a4 H.seen.length c4))).alloc (.cells #[] 2)) w.heap.size (.slice (some ⟨w.heap.size+1,0,none⟩) 0 0) []):=own_nothing2 (by simp) (by omega)
 have T0:Nine ((w.alloc (hpb H (.slice a1 H.row.length c1) (.slice a2 H.roots.length c2) (.slice a3 H.mourned.length c3) (.slice a4 H.seen.length c4))).alloc (.cells #[] 2)) w.heap.size 27 (.int .i64 H.half) (.int .i64 H.old) (.slice a1 H.row.length c1) (.int .i64 H.side) (.int .i64 H.top) (.slice a2 H.roots.length c2) (.slice a3 H.mourned.length c3) (.slice a4 H.seen.length c4) (.int .i64 H.seed):=nine_below (nine_new w H _ _ _ _) ((Below.refl _ _).alloc (Nat.le_refl _) _)
 obtain⟨⟨z0,z1,z2,z3,z4⟩,⟨z5,z6,z7,z8⟩,_⟩:=nine_cells T0
 have HT0:Hid _:=T0
 have HB0:Hid _:=B0
 have HH0:Hid _:=hpAt_below h B0
 have PL:=l9Places_any (hpAt_below h B0)
 rw[hps,Option.getD_some,Option.isSome_some]at PL
 clear B0 T0 h hps hplc
 go_enter Tryz.func55,Tryz.ntmps55
 go_wp2_with fail
 generalize ((w.alloc (hpb H (.slice a1 H.row.length c1) (.slice a2 H.roots.length c2) (.slice a3 H.mourned.length c3) (.slice a4 H.seen.length c4))).alloc (.cells #[] 2))=X at *
 refine PL.mono ?_
 clear PL
 rintro e w1 ⟨vp,rfl,O1,b1⟩
 have HO1:Hid (rows.Own w1 X.heap.size vp ps):=O1
 obtain⟨pa,pc,rfl,hp1,hp2,_,_⟩:=own_ints O1
 have HT1:Hid _:=nine_below HT0.out b1
 have HH1:Hid (HpAt w1 (.slice a1 H.row.length c1) (.slice a2 H.roots.length c2) (.slice a3 H.mourned.length c3) (.slice a4 H.seen.length c4) H):=hpAt_below HH0.out b1
 have HB1:Hid _:=HB0.out.trans (b1.mono HB0.out.size)
 have HE1:Hid _:=own_below HO0.out b1
 clear O1 b1 HT0 HH0 HB0 HO0 z0 z1 z2 z3 z4 z5 z6 z7 z8
 go_wp2_with fail
 go_loopw [3,6] (fun o p wr=>∃(k:Nat) (v:Value),v=o∧k≤ps.length∧p = .int .i64 (k:Int)∧rows.Own wr w.heap.size v (objL H (ps.take k))∧Below w1.heap.size w1 wr) (fun _ p _=>ps.length-(intOf p).toNat)
 case atStart=>exact⟨0,_,rfl,Nat.zero_le _,rfl,HE1.out,Below.refl _ _⟩
 case round=>
  obtain⟨k,v,rfl,hk,rfl,hO,hB⟩:=hrel
  clear HE1
  by_cases hlt:k<ps.length
  ·have hlt':(k:Int)<(ps.length:Int):=by omega
   have T5:=nine_below HT1.out hB
   have H5:=hpAt_below HH1.out hB
   have R5:=own_below HO1.out hB
   obtain⟨j,hj,hjl,hch⟩:=HPC.out (ps.getD k 0) (by rw[List.getD_eq_getElem?_getD,List.getElem?_eq_getElem hlt];exact List.getElem_mem hlt)
   obtain⟨lb,lo,ev,hlb,x0⟩:=ints_cell (own_ints R5) hlt
   subst ev
   have HIO:Hid (isO H (ps.getD k 0) = !(uF (H.row.getD j 0)==6)):=by show _=_;unfold isO;rw[hj,Int.toNat_natCast]
   have HNX:Hid (isO H (ps.getD k 0)=false→objL H (ps.take (k+1))=objL H (ps.take k)):=fun e=>by rw[objL_next hlt,if_neg (by rw[e];decide),List.append_nil]
   have HPU:Hid (isO H (ps.getD k 0)=true→putI (ps.getD k 0) (objL H (ps.take k))=objL H (ps.take (k+1))):=fun e=>objL_put HRis.out hlt e
   rw[hj]at x0 HIO HNX HPU
   obtain⟨⟨z0,z1,z2,z3,z4⟩,⟨z5,z6,z7,z8⟩⟩:=nine_grow T5
   have Y0:=cell_grow x0
   have HOV:Hid _:=hO
   obtain⟨oa,on,oc,rfl⟩:=ints_slice (own_ints hO)
   have HL4:Hid (∀x:Ext wr.heap.size wr,Calls Tryz.prog 46 #[.slice a1 H.row.length c1,.int .i64 (j:Int)] x.to fun e w''=>e = .returned (hv (uS (H.row.getD j 0)) (uF (H.row.getD j 0)) (uC (H.row.getD j 0)) (uH (H.row.getD j 0)) (uP (H.row.getD j 0)) (uM (H.row.getD j 0)))∧∃y:Ext wr.heap.size wr,w''=y.to):=fun x=>calls_grow (Nat.le_refl _) (l4Head_any (intsAt_below H5.1 x.below) j hjl)
   have HBr:Hid _:=hB
   clear hj hO T5 H5 R5 hB hch
   generalize uF (H.row.getD j 0)=f at *
   generalize uS (H.row.getD j 0)=s at *
   generalize uC (H.row.getD j 0)=c at *
   generalize uH (H.row.getD j 0)=g at *
   generalize uP (H.row.getD j 0)=p at *
   generalize uM (H.row.getD j 0)=m at *
   have FF:=field_format s f c g p m
   go_upto_region 6 with fail
   haveI:=ext_any wr
   refine region_grow (n:=wr.heap.size) (by kernel_rfl) (by kernel_rfl) ?_
   repeat (go_big_quiet_step ((go_at_call 46;exact HL4.out _)))
   refine wpQuiet_nil ?_
   intro _ hw'
   obtain⟨x,rfl⟩:=hw'
   have HBx:Hid (Below w1.heap.size w1 x.to):=HBr.out.trans (x.below.mono HBr.out.size)
   have HOX:Hid _:=own_below HOV.out x.below
   have y0:=Y0 x
   clear z0 z1 z2 z3 z4 z5 z6 z7 z8 Y0 HL4 HOV HBr
   generalize x.to=W at *
   clear x this FF
   by_cases h6:f=6
   ·subst h6
    have HV:Hid _:=HNX.out (by rw[HIO.out];rfl)
    clear HPU HNX HIO
    go_wp2
    exact⟨⟨k+1,_,rfl,by omega,by go_num,by rw[HV.out];exact HOX.out,HBx.out⟩,by simp[intOf];omega⟩
   ·have h6':(f != 6)=true:=by simp[h6]
    have hbw:w.heap.size≤W.heap.size:=(HB1.out.trans (HBx.out.mono HB1.out.size)).size
    have PU:=l1Put_any HOX.out hbw (Nat.le_trans (objL_len _ _) (by rw[List.length_take];omega)) (j:Int)
    rw[HPU.out (by rw[HIO.out];simpa using h6)]at PU
    clear HPU HNX HIO hbw
    go_wp2_with (go_at_call 89;refine PU.mono ?_;clear PU;rintro e w5 ⟨v5,rfl,O5,b5⟩;have HO5:Hid _:=O5;have HB5:Hid (Below w1.heap.size w1 w5):=HBx.out.trans (b5.mono HBx.out.size);obtain⟨a5,n5,c5,rfl⟩:=ints_slice (own_ints O5);clear O5 b5 y0)
    exact⟨⟨k+1,_,rfl,by omega,by go_num,HO5.out,HB5.out⟩,by simp[intOf];omega⟩
  ·have hlt':¬(k:Int)<(ps.length:Int):=by omega
   have HV:Hid (rows.Own wr w.heap.size v (objL H ps)):=by
    have:=hO
    rwa [List.take_of_length_le (show ps.length≤k by omega)]at this
   have HBE:Hid _:=HB1.out.trans (hB.mono HB1.out.size)
   obtain⟨oa,on,oc,rfl⟩:=ints_slice (own_ints hO)
   clear hO hB
   go_wp2
   go_ret
   exact⟨_,rfl,HV.out,HBE.out⟩
end Go.Proofs.YtemlagfaaibenaaGreat.hp
namespace Go.Proofs.YtemlagfaaibenaaGreat.hp
open Go.RowKit rows heads words walks
set_option maxRecDepth 100000
set_option linter.unusedVariables false
def putR (xs:List Int) (k:Nat) (ys:List Int):List Int:=xs.take k++ys++xs.drop (k+ys.length)
theorem putR_len {xs:List Int} {k:Nat} {ys:List Int} (h:k+ys.length≤xs.length):(putR xs k ys).length=xs.length:=by simp[putR];omega
theorem putR_get {xs:List Int} {k:Nat} {ys:List Int} (h:k+ys.length≤xs.length) (q:Nat):(putR xs k ys).getD q 0=if k≤q∧q<k+ys.length then ys.getD (q-k) 0 else xs.getD q 0:=by
 unfold putR
 simp only[List.getD_eq_getElem?_getD]
 by_cases h1:q<k
 ·rw[if_neg (by omega),List.append_assoc,List.getElem?_append_left (by simp;omega),List.getElem?_take,if_pos h1]
 ·by_cases h2:q<k+ys.length
  ·rw[if_pos ⟨by omega,h2⟩,List.getElem?_append_left (by simp;omega),List.getElem?_append_right (by simp;omega)]
   congr 2
   simp
   omega
  ·rw[if_neg (by omega),List.getElem?_append_right (by simp;omega),List.getElem?_drop]
   congr 2
   simp
   omega
theorem putR_nil (xs:List Int) (k:Nat):putR xs k []=xs:=by simp[putR]
theorem putR_snoc {xs:List Int} {k:Nat} {ys:List Int} {y:Int} (h:k+ys.length<xs.length):(putR xs k ys).set (k+ys.length) y=putR xs k (ys++[y]):=by
 unfold putR
 rw[List.set_append_right _ _ (by simp;omega)]
 rw[show k+ys.length-(xs.take k++ys).length=0 by simp;omega,List.drop_eq_getElem_cons h,List.set_cons_zero]
 simp[Nat.add_assoc]
def covP (H:Hp) (p:Int) (q:Nat):Bool:= !(ntH H p)&&decide (p.toNat+1≤q)&&decide (q<p.toNat+1+(slotsOf H p).length)
def cov (H:Hp) (os:List Int) (q:Nat):Bool:=os.any (fun p=>covP H p q)
def strAt (H:Hp) (xs:List Int) (p:Int):List Int:=if ntH H p=true then xs else putR xs (p.toNat+1) ((slotsOf H p).map (fol H))
def strRow (H:Hp) (os:List Int):List Int:=os.foldl (strAt H) H.row
theorem strRow_next {H:Hp} {os:List Int} {k:Nat} (hk:k<os.length):strRow H (os.take (k+1))=strAt H (strRow H (os.take k)) (os.getD k 0):=by
 unfold strRow
 rw[List.take_add_one,List.foldl_append,List.getElem?_eq_getElem hk,List.getD_eq_getElem?_getD,List.getElem?_eq_getElem hk]
 rfl
structure Dif (H:Hp) (os:List Int) (xs:List Int):Prop where
 len:xs.length=H.row.length
 same:∀q,cov H os q=false→xs.getD q 0=H.row.getD q 0
structure Apart (H:Hp) (ps:List Int):Prop where
 pair:ps.Pairwise (fun p q=>p+chunk H.row p.toNat≤q)
 nat:∀p ∈ ps,∃j:Nat,p=j∧chunk H.row j≠0∧j<H.row.length
theorem walkL_apart (xs:List Int) (t:Nat):∀(n k:Nat) (l:List Int),walkL xs t n k=some l→l.Pairwise (fun p q=>p+chunk xs p.toNat≤q)∧∀p ∈ l,(k:Int)≤p∧p+chunk xs p.toNat≤t:=by
 intro n
 induction n with
 |zero=>
  intro k l h
  unfold walkL at h
  split at h
  ·cases h
  ·cases h;exact⟨List.Pairwise.nil,fun x hx=>by simp at hx⟩
 |succ n ih=>
  intro k l h
  by_cases h1:k<t
  ·by_cases hb:chunk xs k=0∨(k:Int)+chunk xs k > t
   ·rw[walkL_bad _ _ _ _ h1 hb]at h;cases h
   ·rw[walkL_step _ _ _ _ h1 hb]at h
    obtain⟨l',hl',rfl⟩:=Option.map_eq_some_iff.1 h
    obtain⟨i1,i2⟩:=ih _ _ hl'
    have:=chunk_bounds xs k
    refine⟨List.Pairwise.cons (fun x hx => ?_) i1,fun x hx => ?_⟩
    ·have:=(i2 x hx).1
     rw[Int.toNat_natCast]
     omega
    ·rcases List.mem_cons.1 hx with rfl|hx
     ·rw[Int.toNat_natCast];omega
     ·have:=i2 x hx;omega
  ·rw[walkL_end _ _ _ _ h1]at h
   cases h;exact⟨List.Pairwise.nil,fun x hx=>by simp at hx⟩
theorem apart_of {H:Hp} {ps:List Int} (h:placesR H=some ps):Apart H ps:=by
 have hp:=(places_plc h).1
 obtain⟨N,_,r,u,hr,hu,_,rfl⟩:=places_facts h
 obtain⟨p1,m1⟩:=walkL_apart _ _ _ _ _ hr
 obtain⟨p2,m2⟩:=walkL_apart _ _ _ _ _ hu
 have:=N.room
 refine⟨List.pairwise_append.2 ⟨p1,p2,fun a ha b hb => ?_⟩,fun p hpp => ?_⟩
 ·have q1:=(m1 a ha).2
  have q2:=(m2 b hb).1
  omega
 ·obtain⟨j,a,b,c⟩:=hp p hpp
  exact⟨j,a,c,b⟩
theorem Apart.two {H:Hp} {ps:List Int} (h:Apart H ps) {i j:Nat} (hi:(i:Int) ∈ ps) (hj:(j:Int) ∈ ps) (hlt:i<j):(i:Int)+chunk H.row i≤j:=by
 obtain⟨a,ha,ea⟩:=List.getElem_of_mem hi
 obtain⟨b,hb,eb⟩:=List.getElem_of_mem hj
 have hP:=List.pairwise_iff_getElem.1 h.pair
 rcases Nat.lt_trichotomy a b with q|q|q
 ·have:=hP a b ha hb q
  rw[ea,eb,Int.toNat_natCast]at this
  exact this
 ·subst q
  rw[ea]at eb
  omega
 ·have:=hP b a hb ha q
  rw[ea,eb,Int.toNat_natCast]at this
  have c:=chunk_bounds H.row j
  omega
theorem slots_end {H:Hp} {j:Nat} (hc:chunk H.row j≠0) (h6:uF (H.row.getD j 0)≠6):(j:Int)+1+(slotsOf H j).length≤j+chunk H.row j:=by
 have hb:=chunk_bounds H.row j
 rw[slots_len hc]
 have e:chunk H.row j=sz (uS (H.row.getD j 0)):=by
  unfold chunk at hc ⊢
  by_cases h0:(ok (H.row.getD j 0) && !uM (H.row.getD j 0))=true
  ·rw[if_pos h0,if_neg h6]at hc ⊢
   by_cases h3:(j:Int)+sz (uS (H.row.getD j 0))≤H.row.length∧(uF (H.row.getD j 0)=7→isA (H.row.getD (j+1) 0)=true)
   ·rw[if_pos h3]
   ·rw[if_neg h3]at hc;exact absurd rfl hc
  ·rw[if_neg h0]at hc;exact absurd rfl hc
 obtain⟨s1,s2⟩:=uS_bounds (H.row.getD j 0)
 have sb:=sz_bounds s1 s2
 unfold cnS
 by_cases h7:uF (H.row.getD j 0)=7
 ·rw[if_pos h7];omega
 ·rw[if_neg h7,if_neg h6];omega
theorem objL_mem {H:Hp} {ps:List Int} {p:Int} (h:p ∈ objL H ps):p ∈ ps∧uF (H.row.getD p.toNat 0)≠6:=by
 obtain⟨a,b⟩:=List.mem_filter.1 h
 refine⟨a,?_⟩
 unfold isO at b
 simpa using b
theorem cov_head {H:Hp} {ps os:List Int} (hA:Apart H ps) (ho:∀p ∈ os,p ∈ objL H ps) {j:Nat} (hj:(j:Int) ∈ ps):cov H os j=false:=by
 unfold cov
 rw[List.any_eq_false]
 intro p hp hc
 obtain⟨hpp,h6⟩:=objL_mem (ho p hp)
 obtain⟨i,rfl,hci,_⟩:=hA.nat p hpp
 rw[Int.toNat_natCast]at h6
 simp only[covP,Bool.and_eq_true,decide_eq_true_eq,Int.toNat_natCast]at hc
 have e:=slots_end hci h6
 have:=hA.two hpp hj (by omega)
 omega
theorem cov_second {H:Hp} {ps os:List Int} (hA:Apart H ps) (ho:∀p ∈ os,p ∈ objL H ps) {j:Nat} (hj:(j:Int) ∈ ps) (h:uF (H.row.getD j 0)=7∨uF (H.row.getD j 0)=6):cov H os (j+1)=false:=by
 unfold cov
 rw[List.any_eq_false]
 intro p hp hc
 obtain⟨hpp,h6⟩:=objL_mem (ho p hp)
 obtain⟨i,rfl,hci,_⟩:=hA.nat p hpp
 rw[Int.toNat_natCast]at h6
 simp only[covP,Bool.and_eq_true,decide_eq_true_eq,Int.toNat_natCast,Bool.not_eq_true']at hc
 have e:=slots_end hci h6
 obtain⟨⟨c1,c2⟩,c3⟩:=hc
 rcases Nat.lt_trichotomy i j with q|q|q
 ·have:=hA.two hpp hj q
  omega
 ·subst q
  unfold ntH at c1
  rw[Int.toNat_natCast]at c1
  rcases h with h|h
  ·rw[h]at c1;cases c1
  ·exact h6 h
 ·omega
structure Sim (H H':Hp) (ps:List Int):Prop where
 len:H'.row.length=H.row.length
 head:∀j:Nat,(j:Int) ∈ ps→H'.row.getD j 0=H.row.getD j 0
 second:∀j:Nat,(j:Int) ∈ ps→(uF (H.row.getD j 0)=7∨uF (H.row.getD j 0)=6)→H'.row.getD (j+1) 0=H.row.getD (j+1) 0
theorem sim_of {H H':Hp} {ps os:List Int} (hA:Apart H ps) (ho:∀p ∈ os,p ∈ objL H ps) (hD:Dif H os H'.row):Sim H H' ps:=
 ⟨hD.len,fun j hj=>hD.same _ (cov_head hA ho hj),fun j hj h=>hD.same _ (cov_second hA ho hj h)⟩
theorem dif_put {H:Hp} {os:List Int} {xs:List Int} (hD:Dif H os xs) {p:Int} (hp:p ∈ os) (hn:ntH H p=false) {ys:List Int} (hy:ys.length≤(slotsOf H p).length) (hl:p.toNat+1+(slotsOf H p).length≤H.row.length):Dif H os (putR xs (p.toNat+1) ys):=by
 have hl':p.toNat+1+ys.length≤xs.length:=by rw[hD.len];omega
 refine⟨(putR_len hl').trans hD.len,fun q hq => ?_⟩
 rw[putR_get hl',if_neg,hD.same q hq]
 rintro⟨q1,q2⟩
 have:cov H os q=true:=by
  unfold cov
  rw[List.any_eq_true]
  refine⟨p,hp,?_⟩
  simp only[covP,hn,Bool.not_false,Bool.true_and,Bool.and_eq_true,decide_eq_true_eq]
  omega
 rw[this]at hq
 cases hq
theorem dif_refl (H:Hp) (os:List Int):Dif H os H.row:=⟨rfl,fun _ _=>rfl⟩
theorem obj_len {H:Hp} {ps:List Int} (hA:Apart H ps) {p:Int} (hp:p ∈ objL H ps):p.toNat+1+(slotsOf H p).length≤H.row.length:=by
 obtain⟨hpp,h6⟩:=objL_mem hp
 obtain⟨i,rfl,hci,_⟩:=hA.nat p hpp
 rw[Int.toNat_natCast]at h6 ⊢
 have e:=slots_end hci h6
 have:=chunk_bounds H.row i
 omega
theorem dif_row {H:Hp} {ps os:List Int} (hA:Apart H ps) (ho:∀p ∈ os,p ∈ objL H ps):∀k,k≤os.length→Dif H os (strRow H (os.take k))
 |0,_=>by simpa [strRow] using dif_refl H os
 |k+1,hk=>by
  have ih:=dif_row hA ho k (by omega)
  have hm:os.getD k 0 ∈ os:=by rw[List.getD_eq_getElem?_getD,List.getElem?_eq_getElem (show k<os.length by omega)];exact List.getElem_mem _
  rw[strRow_next (by omega)]
  unfold strAt
  split
  ·exact ih
  ·rename_i hn
   exact dif_put ih hm (by simpa using hn) (by simp) (obj_len hA (ho _ hm))
theorem row_later {H:Hp} {ps os:List Int} (hA:Apart H ps) (ho:∀p ∈ os,p ∈ objL H ps) (hr:Rising os) {k:Nat} (hk:k<os.length) (q:Nat) (hq:(os.getD k 0).toNat≤q):(strRow H (os.take k)).getD q 0=H.row.getD q 0:=by
 have hD:Dif H (os.take k) (strRow H (os.take k)):=by
  have:=dif_row (os:=os.take k) hA (fun p hp=>ho p (List.mem_of_mem_take hp)) k (by simp;omega)
  rwa [List.take_take,Nat.min_self]at this
 refine hD.same q ?_
 unfold cov
 rw[List.any_eq_false]
 intro p hp hc
 have hlt:=rising_take hr hk p hp
 have hm:os.getD k 0 ∈ os:=by rw[List.getD_eq_getElem?_getD,List.getElem?_eq_getElem hk];exact List.getElem_mem _
 obtain⟨h1,h6⟩:=objL_mem (ho p (List.mem_of_mem_take hp))
 obtain⟨h2,_⟩:=objL_mem (ho _ hm)
 obtain⟨i,rfl,hci,_⟩:=hA.nat p h1
 obtain⟨j,ej,_,_⟩:=hA.nat _ h2
 rw[ej]at hlt h2 hq
 rw[Int.toNat_natCast]at h6 hq
 have e:=slots_end hci h6
 have:=hA.two h1 h2 (by omega)
 simp only[covP,Bool.and_eq_true,decide_eq_true_eq,Int.toNat_natCast]at hc
 omega
def strH (H:Hp) (ps:List Int):Hp:= { H with row:=strRow H (objL H ps),roots:=H.roots.map (fol H),mourned:=H.mourned.map (fol H) }
def strF (H:Hp) (ps:List Int):Hp:= { strH H ps with seen:=seenL (strH H ps) }
theorem chunk_sim {H H':Hp} {ps:List Int} (S:Sim H H' ps) {j:Nat} (hj:(j:Int) ∈ ps):chunk H'.row j=chunk H.row j:=by
 unfold chunk
 rw[S.head j hj,S.len]
 by_cases h6:uF (H.row.getD j 0)=6
 ·rw[S.second j hj (.inr h6)]
 ·by_cases h7:uF (H.row.getD j 0)=7
  ·rw[S.second j hj (.inl h7)]
  ·simp only[if_neg h6,h7,false_implies]
theorem walkL_sim {H H':Hp} {ps:List Int} (S:Sim H H' ps) (t:Nat):∀(n k:Nat) (l:List Int),walkL H.row t n k=some l→(∀p ∈ l,p ∈ ps)→walkL H'.row t n k=some l:=by
 intro n
 induction n with
 |zero=>
  intro k l h _
  unfold walkL at h ⊢
  exact h
 |succ n ih=>
  intro k l h hm
  by_cases h1:k<t
  ·by_cases hb:chunk H.row k=0∨(k:Int)+chunk H.row k > t
   ·rw[walkL_bad _ _ _ _ h1 hb]at h;cases h
   ·rw[walkL_step _ _ _ _ h1 hb]at h
    obtain⟨l',hl',rfl⟩:=Option.map_eq_some_iff.1 h
    have e:=chunk_sim S (hm _ (List.mem_cons_self ..))
    rw[walkL_step _ _ _ _ h1 (by rw[e];exact hb),e,ih _ _ hl' (fun p hp=>hm p (List.mem_cons_of_mem _ hp))]
    rfl
  ·rw[walkL_end _ _ _ _ h1]at h ⊢
   exact h
theorem sim_places {H:Hp} {ps os:List Int} (h:placesR H=some ps) (ho:∀p ∈ os,p ∈ objL H ps) {H':Hp} (hD:Dif H os H'.row) (e1:H'.half=H.half) (e2:H'.old=H.old) (e3:H'.side=H.side) (e4:H'.top=H.top) (e5:H'.seed=H.seed) (e6:H'.roots.length=H.roots.length) (e7:H'.mourned.length=H.mourned.length) :
    placesR H'=some ps∧upW H'=upW H∧Nums H'∧numB H'=true:=by
 have hA:=apart_of h
 have S:=sim_of hA ho hD
 have hb:hbad H'=hbad H:=by
  unfold hbad hb8 hb7 hb6 hb5 hb4 hb3 hb2 hb1 hb0
  rw[e1,e2,e3,e4,e5,e6,e7,S.len]
 have hb0:hbad H=false:=by
  cases e:hbad H
  ·rfl
  ·unfold placesR at h;rw[if_pos e]at h;cases h
 obtain⟨N,hz,r,u,hr,hu,hall,hps⟩:=places_facts h
 have q1:bs H'=bs H:=by unfold bs;rw[e3,e1]
 have q2:tp H'=tp H:=by unfold tp;rw[e4]
 have q3:hf H'=hf H:=by unfold hf;rw[e1]
 have q4:od H'=od H:=by unfold od;rw[e2]
 have w1:roomW H'=some r:=by
  unfold roomW walkO
  rw[q1,q2]
  exact walkL_sim S _ _ _ _ hr (fun p hp=>by rw[hps];exact List.mem_append.2 (.inl hp))
 have w2:upW H'=some u:=by
  unfold upW walkO
  rw[q3,q4]
  exact walkL_sim S _ _ _ _ hu (fun p hp=>by rw[hps];exact List.mem_append.2 (.inr hp))
 have hal:r.all (roomOk H')=true:=by
  rw[List.all_eq_true]at hall ⊢
  intro p hp
  have hpp:p ∈ ps:=by rw[hps];exact List.mem_append.2 (.inl hp)
  obtain⟨j,rfl,_,_⟩:=hA.nat p hpp
  have:=hall _ hp
  unfold roomOk at this ⊢
  rw[Int.toNat_natCast]at this ⊢
  rwa [S.head j hpp]
 obtain⟨_,m1⟩:=walkL_apart _ _ _ _ _ hr
 obtain⟨_,m2⟩:=walkL_apart _ _ _ _ _ hu
 have hzz:zeroB H'=true:=by
  refine zeroB_true (fun i hi => ?_)
  have hi':i<2*hf H:=by rw[q3]at hi;exact hi
  have hz0:zeroAt H i=true:=by
   unfold zeroB at hz
   rw[List.all_eq_true]at hz
   exact hz i (List.mem_range.2 hi')
  unfold zeroAt at hz0 ⊢
  rw[q1,q2]
  by_cases hc:i<bs H∨bs H+tp H≤i
  ·have hcv:cov H os i=false:=by
     unfold cov
     rw[List.any_eq_false]
     intro p hp hcp
     obtain⟨hpp,h6⟩:=objL_mem (ho p hp)
     obtain⟨j,rfl,hci,_⟩:=hA.nat p hpp
     rw[Int.toNat_natCast]at h6
     have e:=slots_end hci h6
     simp only[covP,Bool.and_eq_true,decide_eq_true_eq,Int.toNat_natCast]at hcp
     rw[hps]at hpp
     rcases List.mem_append.1 hpp with hpp|hpp
     ·have:=m1 _ hpp
      rw[Int.toNat_natCast]at this
      omega
     ·have:=m2 _ hpp
      omega
   rw[hD.same i hcv]
   exact hz0
  ·simp only[not_or,Nat.not_lt,Nat.not_le]at hc
   have d1:decide (i<bs H)=false:=decide_eq_false (by omega)
   have d2:decide (bs H+tp H≤i)=false:=decide_eq_false (by omega)
   rw[d1,d2];rfl
 have hN:Nums H':=nums_of (hb.trans hb0)
 refine⟨?_,w2.trans hu.symm,hN,((numB_bad H').1 (hb.trans hb0)).1⟩
 unfold placesR
 rw[if_neg (by rw[hb,hb0];decide),placesB_yes hzz w1 w2 hal,hps]
def folK (H:Hp) (xs:List Int) (k:Nat):List Int:=(xs.take k).map (fol H)++xs.drop k
theorem folK_len (H:Hp) (xs:List Int) {k:Nat} (hk:k≤xs.length):(folK H xs k).length=xs.length:=by simp[folK];omega
theorem folK_get (H:Hp) (xs:List Int) {k:Nat} (hk:k<xs.length):(folK H xs k).getD k 0=xs.getD k 0:=by
 unfold folK
 rw[List.getD_eq_getElem?_getD,List.getElem?_append_right (by simp;omega),List.length_map,List.length_take,Nat.min_eq_left (by omega),Nat.sub_self,List.getElem?_drop,Nat.add_zero,←List.getD_eq_getElem?_getD]
theorem folK_set (H:Hp) (xs:List Int) {k:Nat} (hk:k<xs.length):(folK H xs k).set k (fol H (xs.getD k 0))=folK H xs (k+1):=by
 unfold folK
 rw[List.set_append_right _ _ (by simp;omega),List.length_map,List.length_take,Nat.min_eq_left (by omega),Nat.sub_self,List.drop_eq_getElem_cons hk,List.set_cons_zero,List.take_add_one,List.getElem?_eq_getElem hk,List.map_append,List.append_assoc,List.getD_eq_getElem?_getD,List.getElem?_eq_getElem hk]
 rfl
theorem folK_end (H:Hp) (xs:List Int):folK H xs xs.length=xs.map (fol H):=by simp[folK]
theorem folK_zero (H:Hp) (xs:List Int):folK H xs 0=xs:=by simp[folK]
end Go.Proofs.YtemlagfaaibenaaGreat.hp
namespace Go.Proofs.YtemlagfaaibenaaGreat.hp
open Go.RowKit rows heads words walks region
set_option maxRecDepth 100000
set_option linter.unusedVariables false
set_option linter.unusedSimpArgs false
set_option maxHeartbeats 8000000 in
theorem l10Follow_sim {w:World} {vr vo vm vs:Value} {H H':Hp} (h:HpAt w vr vo vm vs H') {ps:List Int} (R:Rt H ps) (S:Sim H H' ps) (x:Int) (hx:wordIn H ps x=true) :
    Calls Tryz.prog 45 #[hpv H' vr vo vm vs,.int .i64 x] w fun e w'=>e = .returned (.int .i64 (fol H x))∧Below w.heap.size w w':=by
 obtain⟨a1,c1,a2,c2,a3,c3,a4,c4,e1,e2,e3,e4⟩:=hpAt_slices h
 subst e1 e2 e3 e4
 have B0:Below w.heap.size w (w.alloc (hpb H' (.slice a1 H'.row.length c1) (.slice a2 H'.roots.length c2) (.slice a3 H'.mourned.length c3) (.slice a4 H'.seen.length c4))):=(Below.refl _ _).alloc (Nat.le_refl _) _
 have HB0:Hid _:=B0
 have HT0:Hid _:=nine_new w H' (.slice a1 H'.row.length c1) (.slice a2 H'.roots.length c2) (.slice a3 H'.mourned.length c3) (.slice a4 H'.seen.length c4)
 have HH:Hid _:=h
 obtain⟨A,hA⟩:∃A,fol H x=A:=⟨_,rfl⟩
 rw[hA]
 have HA:Hid _:=hA
 have HR:Hid _:=R
 have HS:Hid _:=S
 have HX:Hid _:=hx
 clear h B0 hA R hx S
 go_enter Tryz.func45,Tryz.ntmps45
 go_wp2_with fail
 go_loopw [1,5,6] (fun u _ _ wz=>∃y:Int,u = .int .i64 y∧wordIn H ps y=true∧fol H y=A∧Nine wz w.heap.size 27 (.int .i64 H'.half) (.int .i64 H'.old) (.slice a1 H'.row.length c1) (.int .i64 H'.side) (.int .i64 H'.top) (.slice a2 H'.roots.length c2) (.slice a3 H'.mourned.length c3) (.slice a4 H'.seen.length c4) (.int .i64 H'.seed)∧Below w.heap.size w wz) (fun u _ _ _=>rk H (intOf u))
 case atStart=>exact⟨x,rfl,HX.out,HA.out,HT0.out,HB0.out⟩
 case round=>
  obtain⟨y,rfl,hy,hF,hT,hB⟩:=hrel
  clear HT0 HB0 HA HX
  obtain⟨⟨z0,z1,z2,z3,z4⟩,⟨z5,z6,z7,z8⟩,_⟩:=nine_cells hT
  have sr:=hB.size
  have SA:=sAddrOf_any y
  have HT:Hid _:=hT
  have HB:Hid _:=hB
  have HF:Hid _:=hF
  cases dA:isA y
  ·have HE:Hid (A=y):=by show _=_;rw[←hF];exact fol_stop (by unfold toNote;rw[dA];rfl)
   rw[dA]at SA
   clear hT hB hF hy dA
   go_wp2_with (go_at_call 44;refine (SA _).mono ?_;clear SA;rintro e w3 ⟨rfl,hw3⟩;rw[hw3];clear hw3 w3)
   go_ret
   exact⟨by rw[HE.out];rfl,HB.out⟩
  ·rw[dA]at SA
   obtain⟨hm,_⟩:=word_place hy dA
   obtain⟨j,hj,hjl0,_⟩:=HR.out.plc _ hm
   have hjl:j<H'.row.length:=by rw[HS.out.len];exact hjl0
   have hI:=(hpAt_below HH.out hB).1
   have L4:=l4Head_any hI j hjl
   unfold hw at L4
   have HST:Hid (toNote H y=false→A=y):=fun e=>by rw[←hF];exact fol_stop e
   have HNT:Hid (toNote H y=true→_):=fun e=>HR.out.note hy e
   rw[hj]at hm
   have htn:toNote H y=(uF (H'.row.getD j 0)==7):=by unfold toNote ntH;rw[dA,hj,Int.toNat_natCast,HS.out.head j hm];rfl
   have HNW:Hid (uF (H'.row.getD j 0)=7→noteW H y=H'.row.getD (j+1) 0):=fun e7=>by
    rw[HS.out.head j hm]at e7
    unfold noteW
    rw[hj,Int.toNat_natCast,HS.out.second j hm (.inl e7)]
   have hj1l:(av y).toNat+1=j+1:=by rw[hj,Int.toNat_natCast]
   have HJ1:Hid _:=hj1l
   have HLN:Hid _:=HS.out.len
   rw[hj]at SA
   generalize uF (H'.row.getD j 0)=f at *
   generalize uS (H'.row.getD j 0)=s at *
   generalize uC (H'.row.getD j 0)=c at *
   generalize uH (H'.row.getD j 0)=g at *
   generalize uP (H'.row.getD j 0)=p0 at *
   generalize uM (H'.row.getD j 0)=m at *
   have FF:=field_format s f c g p0 m
   by_cases h7:f=7
   ·obtain⟨hj1,n2,n3,n4,n5⟩:=HNT.out (by rw[htn,h7];rfl)
    rw[HJ1.out,←HLN.out]at hj1
    rw[HNW.out h7]at n2 n4 n5
    subst h7
    obtain⟨a',c',e',_,_,_,hcc⟩:=hI
    have e1:a1=a':=by injection e'
    subst e1
    obtain⟨b,off,rfl,hb,hcc⟩:=hcc (by omega)
    have x1:=hcc (j+1) hj1
    have HN:Hid (wordIn H ps (H'.row.getD (j+1) 0)=true∧fol H (H'.row.getD (j+1) 0)=A∧rk H (H'.row.getD (j+1) 0)<rk H y):=⟨n2,by rw[←n4];exact hF,n5⟩
    generalize H'.row.getD (j+1) 0=z at *
    have hlen:=HR.out.len
    have hj0:j≤1000:=by have:=HLN.out;omega
    have hj1':((j:Int)+1).toNat=j+1:=by omega
    have hj2:(0:Int)≤(j:Int)+1:=by omega
    have hj3:(j:Int)+1<(H'.row.length:Int):=by omega
    clear hT hB hF hy hcc e' htn HNW HST HNT n2 n3 n4 n5 dA hm hj hjl hjl0 hlen hj1l
    go_wp2_with (first
     |(go_at_call 44;refine (SA _).mono ?_;clear SA;rintro e w3 ⟨rfl,hw3⟩;rw[hw3];clear hw3 w3)
     |(go_at_call 46;refine L4.mono ?_;clear L4;rintro e w2 ⟨rfl,b2⟩;have T2:=nine_below HT.out b2;have x2:=(b2.cell (p:=⟨b,off+(j+1),none⟩) hb).trans x1;clear z0 z1 z2 z3 z4 z5 z6 z7 z8 x1;obtain⟨⟨z0,z1,z2,z3,z4⟩,⟨z5,z6,z7,z8⟩,_⟩:=nine_cells T2;have HT2:Hid _:=T2;have HB2:Hid _:=HB.out.trans (b2.mono sr);clear b2 T2))
    exact⟨⟨z,rfl,HN.out.1,HN.out.2.1,HT2.out,HB2.out⟩,HN.out.2.2⟩
   ·have h7':(f != 7)=true:=by simp[h7]
    have HE:Hid (A=y):=HST.out (by rw[htn];simpa using h7)
    clear hT hB hF hy htn HNW HST HNT dA hm hj hjl hjl0 hI hj1l
    go_wp2_with (first
     |(go_at_call 44;refine (SA _).mono ?_;clear SA;rintro e w3 ⟨rfl,hw3⟩;rw[hw3];clear hw3 w3)
     |(go_at_call 46;refine L4.mono ?_;clear L4;rintro e w2 ⟨rfl,b2⟩;have HB2:Hid _:=HB.out.trans (b2.mono sr);clear b2))
    go_ret
    exact⟨by rw[HE.out];rfl,HB2.out⟩
structure Dst (w:World) (P base gr go gm:Nat) (vs:Value):Prop where
 ro:gr≠go
 rm:gr≠gm
 om:go≠gm
 pr:P≠gr
 po:P≠go
 pm:P≠gm
 sr:∀k ∈ blk vs,k≠gr∧k≠go∧k≠gm∧k≠P
 lt:gr<w.heap.size∧go<w.heap.size∧gm<w.heap.size∧P<w.heap.size
structure SS (w W:World) (P base gr go gm cr co cm nr no nm:Nat) (vs vl:Value) (H:Hp) (os xs rs ms:List Int):Prop where
 nine:Nine W P 27 (.int .i64 H.half) (.int .i64 H.old) (.slice (some ⟨gr,0,none⟩) nr cr) (.int .i64 H.side) (.int .i64 H.top) (.slice (some ⟨go,0,none⟩) no co) (.slice (some ⟨gm,0,none⟩) nm cm) vs (.int .i64 H.seed)
 row:W.ownsRow base 2 1 (.slice (some ⟨gr,0,none⟩) nr cr) nr (cellsOf xs)
 roots:W.ownsRow base 2 1 (.slice (some ⟨go,0,none⟩) no co) no (cellsOf rs)
 mour:W.ownsRow base 2 1 (.slice (some ⟨gm,0,none⟩) nm cm) nm (cellsOf ms)
 seen:rows.Own W base vs H.seen
 list:rows.Own W w.heap.size vl os
 ch:Ch [P,gr,go,gm] w W
 lr:xs.length=nr
 lo:rs.length=no
 lm:ms.length=nm
theorem SS.below {W W':World} {w:World} {P base gr go gm cr co cm nr no nm:Nat} {vs vl:Value} {H:Hp} {os:List Int} {xs rs ms:List Int} (h:SS w W P base gr go gm cr co cm nr no nm vs vl H os xs rs ms) (hb:Below W.heap.size W W'):SS w W' P base gr go gm cr co cm nr no nm vs vl H os xs rs ms:=
 ⟨nine_below h.nine hb,row_ch (S:=[]) h.row (ch_below hb) (by simp),row_ch (S:=[]) h.roots (ch_below hb) (by simp),row_ch (S:=[]) h.mour (ch_below hb) (by simp),own_below h.seen hb,own_below h.list hb,h.ch.trans (ch_below hb),h.lr,h.lo,h.lm⟩
theorem blk_of (g n c:Nat):blk (.slice (some ⟨g,0,none⟩) n c)=[g]:=rfl
theorem cells_set (xs:List Int) (i:Nat) (x:Int):(cellsOf xs).set i (.int .i64 x)=cellsOf (xs.set i x):=by simp[cellsOf,List.map_set]
theorem SS.setRow {W:World} {w:World} {P base gr go gm cr co cm nr no nm:Nat} {vs vl:Value} {H:Hp} {os:List Int} {xs rs ms:List Int} (h:SS w W P base gr go gm cr co cm nr no nm vs vl H os xs rs ms) (d:Dst w P base gr go gm vs) (i:Nat) (x:Int):SS w (W.setCell ⟨gr,i,none⟩ (.int .i64 x)) P base gr go gm cr co cm nr no nm vs vl H os (xs.set i x) rs ms:=
 ⟨nine_ch h.nine (one_ch _ gr _ _) (by simp;exact d.pr),by have:=(World.ownsRow.stored h.row i (.int .i64 x)).1;rw[cells_set]at this;exact this,row_ch (S:=[gr]) h.roots (one_ch _ _ _ _) (fun k hk=>by rw[blk_of]at hk;simp at hk ⊢; have:=d.ro;omega),row_ch (S:=[gr]) h.mour (one_ch _ _ _ _) (fun k hk=>by rw[blk_of]at hk;simp at hk ⊢; have:=d.rm;omega),row_ch (S:=[gr]) h.seen (one_ch _ _ _ _) (fun k hk=>by simp;exact (d.sr k hk).1),row_ch (S:=[gr]) h.list (one_ch _ _ _ _) (fun k hk=>by have:=(blk_lt h.list k hk).1;have:=d.lt.1;simp;omega),h.ch.trans ((one_ch _ gr _ _).mono (by simp)),by simpa using h.lr,by simpa using h.lo,by simpa using h.lm⟩
theorem SS.setRoot {W:World} {w:World} {P base gr go gm cr co cm nr no nm:Nat} {vs vl:Value} {H:Hp} {os:List Int} {xs rs ms:List Int} (h:SS w W P base gr go gm cr co cm nr no nm vs vl H os xs rs ms) (d:Dst w P base gr go gm vs) (i:Nat) (x:Int):SS w (W.setCell ⟨go,i,none⟩ (.int .i64 x)) P base gr go gm cr co cm nr no nm vs vl H os xs (rs.set i x) ms:=
 ⟨nine_ch h.nine (one_ch _ go _ _) (by simp;exact d.po),row_ch (S:=[go]) h.row (one_ch _ _ _ _) (fun k hk=>by rw[blk_of]at hk;simp at hk ⊢; have:=d.ro;omega),by have:=(World.ownsRow.stored h.roots i (.int .i64 x)).1;rw[cells_set]at this;exact this,row_ch (S:=[go]) h.mour (one_ch _ _ _ _) (fun k hk=>by rw[blk_of]at hk;simp at hk ⊢; have:=d.om;omega),row_ch (S:=[go]) h.seen (one_ch _ _ _ _) (fun k hk=>by simp;exact (d.sr k hk).2.1),row_ch (S:=[go]) h.list (one_ch _ _ _ _) (fun k hk=>by have:=(blk_lt h.list k hk).1;have:=d.lt.2.1;simp;omega),h.ch.trans ((one_ch _ go _ _).mono (by simp)),by simpa using h.lr,by simpa using h.lo,by simpa using h.lm⟩
theorem SS.setMour {W:World} {w:World} {P base gr go gm cr co cm nr no nm:Nat} {vs vl:Value} {H:Hp} {os:List Int} {xs rs ms:List Int} (h:SS w W P base gr go gm cr co cm nr no nm vs vl H os xs rs ms) (d:Dst w P base gr go gm vs) (i:Nat) (x:Int):SS w (W.setCell ⟨gm,i,none⟩ (.int .i64 x)) P base gr go gm cr co cm nr no nm vs vl H os xs rs (ms.set i x):=
 ⟨nine_ch h.nine (one_ch _ gm _ _) (by simp;exact d.pm),row_ch (S:=[gm]) h.row (one_ch _ _ _ _) (fun k hk=>by rw[blk_of]at hk;simp at hk ⊢; have:=d.rm;omega),row_ch (S:=[gm]) h.roots (one_ch _ _ _ _) (fun k hk=>by rw[blk_of]at hk;simp at hk ⊢; have:=d.om;omega),by have:=(World.ownsRow.stored h.mour i (.int .i64 x)).1;rw[cells_set]at this;exact this,row_ch (S:=[gm]) h.seen (one_ch _ _ _ _) (fun k hk=>by simp;exact (d.sr k hk).2.2.1),row_ch (S:=[gm]) h.list (one_ch _ _ _ _) (fun k hk=>by have:=(blk_lt h.list k hk).1;have:=d.lt.2.2.1;simp;omega),h.ch.trans ((one_ch _ gm _ _).mono (by simp)),by simpa using h.lr,by simpa using h.lo,by simpa using h.lm⟩
theorem SS.hp {W:World} {w:World} {P base gr go gm cr co cm nr no nm:Nat} {vs vl:Value} {H:Hp} {os:List Int} {xs rs ms:List Int} (h:SS w W P base gr go gm cr co cm nr no nm vs vl H os xs rs ms):HpAt W (.slice (some ⟨gr,0,none⟩) xs.length cr) (.slice (some ⟨go,0,none⟩) rs.length co) (.slice (some ⟨gm,0,none⟩) ms.length cm) vs { H with row:=xs,roots:=rs,mourned:=ms }:=by
 have h1:=h.row
 have h2:=h.roots
 have h3:=h.mour
 rw[←h.lr]at h1
 rw[←h.lo]at h2
 rw[←h.lm]at h3
 exact⟨own_ints h1,own_ints h2,own_ints h3,own_ints h.seen⟩
theorem SS.rowCell {W:World} {w:World} {P base gr go gm cr co cm nr no nm:Nat} {vs vl:Value} {H:Hp} {os:List Int} {xs rs ms:List Int} (h:SS w W P base gr go gm cr co cm nr no nm vs vl H os xs rs ms) {q:Nat} (hq:q<xs.length):W.cell? ⟨gr,q,none⟩=some (.int .i64 (xs.getD q 0))∧W.frozen? ⟨gr,q,none⟩=false:=by
 refine⟨?_,World.ownsRow.frozenAt h.row q⟩
 rw[World.ownsRow.cellAt h.row q (by rw[←h.lr];omega)]
 simp[cellsOf,hq,List.getD_eq_getElem?_getD]
theorem SS.rootCell {W:World} {w:World} {P base gr go gm cr co cm nr no nm:Nat} {vs vl:Value} {H:Hp} {os:List Int} {xs rs ms:List Int} (h:SS w W P base gr go gm cr co cm nr no nm vs vl H os xs rs ms) {q:Nat} (hq:q<rs.length):W.cell? ⟨go,q,none⟩=some (.int .i64 (rs.getD q 0))∧W.frozen? ⟨go,q,none⟩=false:=by
 refine⟨?_,World.ownsRow.frozenAt h.roots q⟩
 rw[World.ownsRow.cellAt h.roots q (by rw[←h.lo];omega)]
 simp[cellsOf,hq,List.getD_eq_getElem?_getD]
theorem SS.mourCell {W:World} {w:World} {P base gr go gm cr co cm nr no nm:Nat} {vs vl:Value} {H:Hp} {os:List Int} {xs rs ms:List Int} (h:SS w W P base gr go gm cr co cm nr no nm vs vl H os xs rs ms) {q:Nat} (hq:q<ms.length):W.cell? ⟨gm,q,none⟩=some (.int .i64 (ms.getD q 0))∧W.frozen? ⟨gm,q,none⟩=false:=by
 refine⟨?_,World.ownsRow.frozenAt h.mour q⟩
 rw[World.ownsRow.cellAt h.mour q (by rw[←h.lm];omega)]
 simp[cellsOf,hq,List.getD_eq_getElem?_getD]
end Go.Proofs.YtemlagfaaibenaaGreat.hp
namespace Go.Proofs.YtemlagfaaibenaaGreat.hp
open Go.RowKit rows heads words walks
set_option maxRecDepth 100000
set_option linter.unusedVariables false
theorem Rt.slot_in {H:Hp} {ps:List Int} (R:Rt H ps) {p:Int} (hp:p ∈ ps) {x:Int} (hx:x ∈ slotsOf H p):wordIn H ps x=true:=by
 have hs:=R.slots
 unfold slotsOk at hs
 rw[List.all_eq_true]at hs
 have h1:=hs _ hp
 rw[List.all_eq_true]at h1
 exact h1 x hx
theorem Rt.root_in {H:Hp} {ps:List Int} (R:Rt H ps) {x:Int} (hx:x ∈ H.roots++H.mourned):wordIn H ps x=true:=by
 rcases List.mem_append.1 hx with h|h
 ·exact List.all_eq_true.1 R.roots x h
 ·have hm:=R.mourned
  unfold mournOk at hm
  have:=List.all_eq_true.1 hm x h
  rw[Bool.and_eq_true]at this
  exact this.2
end Go.Proofs.YtemlagfaaibenaaGreat.hp
namespace Go.Proofs.YtemlagfaaibenaaGreat.hp
open Go.RowKit rows heads words walks
set_option maxRecDepth 100000
set_option linter.unusedVariables false
set_option linter.unusedSimpArgs false
theorem chunk_sz {xs:List Int} {j:Nat} (h:chunk xs j≠0) (h6:uF (xs.getD j 0)≠6):chunk xs j=sz (uS (xs.getD j 0))∧0≤uS (xs.getD j 0)∧uS (xs.getD j 0)≤20∧j+(sz (uS (xs.getD j 0))).toNat≤xs.length:=by
 have hb:=chunk_bounds xs j
 have hu:=uS_bounds (xs.getD j 0)
 have e:chunk xs j=sz (uS (xs.getD j 0)):=by
  by_cases q1:(ok (xs.getD j 0) && !uM (xs.getD j 0))=true
  ·by_cases q2:(j:Int)+sz (uS (xs.getD j 0))≤xs.length∧(uF (xs.getD j 0)=7→isA (xs.getD (j+1) 0)=true)
   ·unfold chunk
    rw[if_pos q1,if_neg h6,if_pos q2]
   ·refine absurd ?_ h
    unfold chunk
    rw[if_pos q1,if_neg h6,if_neg q2]
  ·refine absurd ?_ h
   unfold chunk
   rw[if_neg q1]
 exact⟨e,hu.1,hu.2,by omega⟩
theorem apart_rising {H:Hp} {ps os:List Int} (hA:Apart H ps) (ho:∀p ∈ os,p ∈ ps) (hr:Rising os) {k:Nat} (hk:k<os.length):∀p ∈ os.take k,p.toNat+(chunk H.row p.toNat).toNat≤(os.getD k 0).toNat:=fun p hp=>by
 have hlt:=rising_take hr hk p hp
 have hm:os.getD k 0 ∈ os:=by rw[List.getD_eq_getElem?_getD,List.getElem?_eq_getElem hk];exact List.getElem_mem _
 have h1:=ho p (List.mem_of_mem_take hp)
 have h2:=ho _ hm
 obtain⟨i,rfl,hci,_⟩:=hA.nat p h1
 obtain⟨j,ej,_,_⟩:=hA.nat _ h2
 rw[ej]at hlt h2 ⊢
 have:=hA.two h1 h2 (by omega)
 rw[Int.toNat_natCast,Int.toNat_natCast]
 have hb:=chunk_bounds H.row i
 omega
end Go.Proofs.YtemlagfaaibenaaGreat.hp
namespace Go.Proofs.YtemlagfaaibenaaGreat.hp
open Go.RowKit rows heads words walks
set_option maxRecDepth 100000
set_option linter.unusedVariables false
def addS (S:Nat→Bool) (q:Nat):Nat→Bool:=fun r=>S r || r==q
def addK (S:Nat→Bool) (j k:Nat):Nat→Bool:=fun q=>S q || (decide (j+1≤q)&&decide (q<j+1+k))
theorem addK_zero (S:Nat→Bool) (j:Nat):addK S j 0=S:=by
 funext q
 unfold addK
 have:(decide (j+1≤q)&&decide (q<j+1+0))=false:=by simp<;>omega
 rw[this,Bool.or_false]
theorem addK_next (S:Nat→Bool) (j k:Nat):addK S j (k+1)=addS (addK S j k) (j+1+k):=by
 funext q
 unfold addK addS
 have:(decide (j+1≤q)&&decide (q<j+1+(k+1)))=((decide (j+1≤q)&&decide (q<j+1+k)) || q==j+1+k):=by
  rw[Bool.eq_iff_iff]
  simp
  omega
 rw[this,Bool.or_assoc]
end Go.Proofs.YtemlagfaaibenaaGreat.hp
namespace Go.Proofs.YtemlagfaaibenaaGreat.hp
open Go.RowKit rows heads words walks
set_option maxRecDepth 100000
set_option linter.unusedVariables false
set_option linter.unusedSimpArgs false
def isStr (H:Hp) (ps:List Int):Bool:=decide (strRow H (objL H ps)=H.row)&&(decide (H.roots.map (fol H)=H.roots)&&decide (H.mourned.map (fol H)=H.mourned))
def strW (H:Hp) (ps:List Int):List Int:=H.roots++H.mourned++((objL H ps).filter (fun p => !(ntH H p))).flatMap (slotsOf H)
theorem map_fix {xs:List Int} {f:Int→Int} (h:∀x ∈ xs,f x=x):xs.map f=xs:=by
 induction xs with
 |nil=>rfl
 |cons x xs ih=>rw[List.map_cons,h x (by simp),ih (fun y hy=>h y (by simp[hy]))]
theorem map_fix_at {xs:List Int} {f:Int→Int} (h:xs.map f=xs):∀x ∈ xs,f x=x:=by
 induction xs with
 |nil=>intro x hx;cases hx
 |cons y ys ih=>
  intro x hx
  rw[List.map_cons]at h
  injection h with h1 h2
  rcases List.mem_cons.1 hx with e|e
  ·rw[e];exact h1
  ·exact ih h2 x e
theorem putR_self {xs:List Int} {k n:Nat} (hk:k+((xs.drop k).take n).length≤xs.length):putR xs k ((xs.drop k).take n)=xs:=by
 refine List.ext_getElem (putR_len hk) (fun q h1 h2 => ?_)
 have e:=putR_get hk q
 rw[List.getD_eq_getElem?_getD,List.getElem?_eq_getElem h1]at e
 have e':(putR xs k ((xs.drop k).take n))[q]=_:=e
 rw[e']
 split
 ·rename_i hq
  have hl:q-k<((xs.drop k).take n).length:=by omega
  rw[List.getD_eq_getElem?_getD,List.getElem?_eq_getElem hl]
  simp only[Option.getD_some,List.getElem_take,List.getElem_drop]
  congr 1
  omega
 ·rw[List.getD_eq_getElem?_getD,List.getElem?_eq_getElem h2]
  rfl
theorem row_done {H:Hp} {ps os:List Int} (hA:Apart H ps) (ho:∀p ∈ os,p ∈ objL H ps) (hr:Rising os) {k:Nat} {p:Nat} (hk:k<os.length) (hp:os.getD k 0=(p:Int)) {q:Nat} (hq:q<p+(chunk H.row p).toNat):∀j,k+1≤j→j≤os.length→(strRow H (os.take j)).getD q 0=(strRow H (os.take (k+1))).getD q 0:=by
 intro j
 induction j with
 |zero=>intro h _;omega
 |succ j ih=>
  intro h1 h2
  by_cases e:k+1=j+1
  ·rw[e]
  ·rw[←ih (by omega) (by omega),strRow_next (by omega)]
   have hap:=apart_rising hA (fun x hx=>(objL_mem (ho x hx)).1) hr (k:=j) (by omega) (p:Int) (by
    rw[←hp]
    have hkj:k<(os.take j).length:=by rw[List.length_take];omega
    have:(os.take j)[k]=os.getD k 0:=by rw[List.getElem_take,List.getD_eq_getElem?_getD,List.getElem?_eq_getElem hk];rfl
    rw[←this]
    exact List.getElem_mem hkj)
   rw[Int.toNat_natCast]at hap
   have hmj:os.getD j 0 ∈ os:=by rw[List.getD_eq_getElem?_getD,List.getElem?_eq_getElem (by omega)];exact List.getElem_mem _
   unfold strAt
   split
   ·rfl
   ·have D:=dif_row hA ho j (by omega)
    have ol:=obj_len hA (ho _ hmj)
    have hl:(os.getD j 0).toNat+1+((slotsOf H (os.getD j 0)).map (fol H)).length≤(strRow H (os.take j)).length:=by rw[List.length_map,D.len];exact ol
    rw[putR_get hl,if_neg (by omega)]
theorem isStr_is {H:Hp} {ps:List Int} (R:Rt H ps) (hr:Rising (objL H ps)):isStr H ps = !((strW H ps).any (toNote H)):=by
 have hA:=apart_of R.some'
 have win:∀x ∈ strW H ps,wordIn H ps x=true:=fun x hx=>by
  unfold strW at hx
  rcases List.mem_append.1 hx with hx|hx
  ·exact R.root_in hx
  ·obtain⟨p,hp,hx⟩:=List.mem_flatMap.1 hx
   have hs:=R.slots
   unfold slotsOk at hs
   rw[List.all_eq_true]at hs
   have h1:=hs _ (objL_mem (List.mem_filter.1 hp).1).1
   rw[List.all_eq_true]at h1
   exact h1 x hx
 have key:isStr H ps=true↔∀x ∈ strW H ps,fol H x=x:=by
  constructor
  ·intro h
   unfold isStr at h
   simp only[Bool.and_eq_true,decide_eq_true_eq]at h
   obtain⟨h1,h2,h3⟩:=h
   intro x hx
   unfold strW at hx
   rcases List.mem_append.1 hx with hx|hx
   ·rcases List.mem_append.1 hx with hx|hx
    ·exact map_fix_at h2 x hx
    ·exact map_fix_at h3 x hx
   ·obtain⟨p,hp,hx⟩:=List.mem_flatMap.1 hx
    obtain⟨hpo,hpn⟩:=List.mem_filter.1 hp
    obtain⟨k,hk,ek⟩:=List.getElem_of_mem hpo
    obtain⟨j,ej,hc,hjl⟩:=hA.nat p (objL_mem hpo).1
    have h6:=(objL_mem hpo).2
    rw[ej,Int.toNat_natCast]at h6
    have ek':(objL H ps).getD k 0=(j:Int):=by rw[List.getD_eq_getElem?_getD,List.getElem?_eq_getElem hk,Option.getD_some,ek,ej]
    obtain⟨i,hi,ei⟩:=List.getElem_of_mem hx
    have se:=slots_end hc h6
    rw[ej]at hi
    have D:=dif_row hA (fun p hp=>hp) k (by omega)
    have hn:ntH H (j:Int)=false:=by rw[←ej];simpa using hpn
    have hl:j+1+((slotsOf H (j:Int)).map (fol H)).length≤(strRow H ((objL H ps).take k)).length:=by rw[List.length_map,D.len];have:=chunk_bounds H.row j;omega
    have e1:(strRow H ((objL H ps).take (k+1))).getD (j+1+i) 0=fol H ((slotsOf H (j:Int)).getD i 0):=by
     rw[strRow_next hk,ek']
     unfold strAt
     rw[if_neg (by rw[hn];decide),Int.toNat_natCast,putR_get hl,if_pos (by rw[List.length_map];omega),show j+1+i-(j+1)=i by omega,List.getD_eq_getElem?_getD,List.getElem?_map,List.getElem?_eq_getElem hi,List.getD_eq_getElem?_getD,List.getElem?_eq_getElem hi]
     rfl
    have e2:=row_done hA (fun p hp=>hp) hr hk ek' (q:=j+1+i) (by omega) (objL H ps).length (by omega) (Nat.le_refl _)
    rw[List.take_length,h1,e1]at e2
    have e3:(slotsOf H (j:Int)).getD i 0=H.row.getD (j+1+i) 0:=slots_getD (by have:=slots_len (H:=H) hc;omega)
    have e4:(slotsOf H (j:Int)).getD i 0=x:=by
     rw[List.getD_eq_getElem?_getD,List.getElem?_eq_getElem hi,Option.getD_some,←ei]
     congr 1
     rw[ej]
    rw[←e3,e4]at e2
    exact e2.symm
  ·intro h
   unfold isStr
   simp only[Bool.and_eq_true,decide_eq_true_eq]
   refine⟨?_,map_fix (fun x hx=>h x (by unfold strW;simp[hx])),map_fix (fun x hx=>h x (by unfold strW;simp[hx]))⟩
   have:∀k,k≤(objL H ps).length→strRow H ((objL H ps).take k)=H.row:=by
    intro k
    induction k with
    |zero=>intro _;rfl
    |succ k ih=>
     intro hk
     have hm:(objL H ps).getD k 0 ∈ objL H ps:=by rw[List.getD_eq_getElem?_getD,List.getElem?_eq_getElem (by omega)];exact List.getElem_mem _
     rw[strRow_next (by omega),ih (by omega)]
     unfold strAt
     split
     ·rfl
     ·rename_i hn
      have em:(slotsOf H ((objL H ps).getD k 0)).map (fol H)=slotsOf H ((objL H ps).getD k 0):=by
       refine map_fix (fun x hx=>h x ?_)
       unfold strW
       exact List.mem_append.2 (.inr (List.mem_flatMap.2 ⟨_,List.mem_filter.2 ⟨hm,by simpa using hn⟩,hx⟩))
      rw[em]
      exact putR_self (by have:=obj_len hA hm;unfold slotsOf at this;exact this)
   have:=this _ (Nat.le_refl _)
   rwa [List.take_length]at this
 rw[Bool.eq_iff_iff,key,Bool.not_eq_true',List.any_eq_false]
 constructor
 ·intro h x hx
  have:=(R.followed (win x hx)).2
  rw[h x hx]at this
  rw[this]
  decide
 ·intro h x hx
  refine fol_stop ?_
  have:=h x hx
  cases e:toNote H x
  ·rfl
  ·exact absurd e this
end Go.Proofs.YtemlagfaaibenaaGreat.hp
