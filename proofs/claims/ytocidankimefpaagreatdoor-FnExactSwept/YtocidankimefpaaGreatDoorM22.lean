/-
  Chapter 14 as lists: weak ones let go. Chapter 15 as lists: is all straight, and closed? Chapter 10 as the specification has it: Follow. Chapter 10 as the specification has it: following in a heap that is partly made straight. Chapter 10 as the specification has it: a heap of the call's own made str
-/
import Derived.Test.YtocidankimefpaaGreatDoorM21
import Derived.Test.YtocidankimefpaaGreatDoorM20
import Derived.Test.YtocidankimefpaaGreatDoorM13
import Derived.Deep.RegionLaw
namespace Go.Proofs.YtocidankimefpaaGreatDoor.hp
open Go.RowKit rows heads words walks
set_option maxRecDepth 100000
set_option linter.unusedVariables false
def lostW (H:Hp) (L:List Int) (x:Int):Bool:=match tgt H x with|some a => !(decide (a ∈ L))|none=>false
theorem marks_objL {H:Hp} {ps L:List Int} (R:Rt H ps) (hL:IsMarks H L):∀p ∈ L,p ∈ objL H ps:=fun p hp=>by
 have o:=R.mk_at ((hL.2 p).1 hp)
 unfold objL
 refine List.mem_filter.2 ⟨o.1,?_⟩
 unfold isO
 have:=o.2.1
 unfold fm at this
 rw[Bool.not_eq_true',beq_eq_false_iff_ne]
 exact this
end Go.Proofs.YtocidankimefpaaGreatDoor.hp
namespace Go.Proofs.YtocidankimefpaaGreatDoor.hp
open Go.RowKit rows heads words walks
set_option maxRecDepth 100000
set_option linter.unusedVariables false
set_option linter.unusedSimpArgs false
def isStr (H:Hp) (ps:List Int):Bool:=decide (strRow H (objL H ps)=H.row)&&(decide (H.roots.map (fol H)=H.roots)&&decide (H.mourned.map (fol H)=H.mourned))
def strW (H:Hp) (ps:List Int):List Int:=H.roots++H.mourned++((objL H ps).filter (fun p => !(ntH H p))).flatMap (slotsOf H)
theorem map_fix {xs:List Int} {f:Int→Int} (h:∀x ∈ xs,f x=x):xs.map f=xs:=by
 induction xs with
 |nil=>rfl
 |cons x xs ih=>rw[List.map_cons,h x (by simp),ih (fun y hy=>h y (by simp[hy]))]
theorem map_fix_at {xs:List Int} {f:Int→Int} (h:xs.map f=xs):∀x ∈ xs,f x=x:=by
 induction xs with
 |nil=>intro x hx;cases hx
 |cons y ys ih=>
  intro x hx
  rw[List.map_cons]at h
  injection h with h1 h2
  rcases List.mem_cons.1 hx with e|e
  ·rw[e];exact h1
  ·exact ih h2 x e
theorem putR_self {xs:List Int} {k n:Nat} (hk:k+((xs.drop k).take n).length≤xs.length):putR xs k ((xs.drop k).take n)=xs:=by
 refine List.ext_getElem (putR_len hk) (fun q h1 h2 => ?_)
 have e:=putR_get hk q
 rw[List.getD_eq_getElem?_getD,List.getElem?_eq_getElem h1]at e
 have e':(putR xs k ((xs.drop k).take n))[q]=_:=e
 rw[e']
 split
 ·rename_i hq
  have hl:q-k<((xs.drop k).take n).length:=by omega
  rw[List.getD_eq_getElem?_getD,List.getElem?_eq_getElem hl]
  simp only[Option.getD_some,List.getElem_take,List.getElem_drop]
  congr 1
  omega
 ·rw[List.getD_eq_getElem?_getD,List.getElem?_eq_getElem h2]
  rfl
theorem row_done {H:Hp} {ps os:List Int} (hA:Apart H ps) (ho:∀p ∈ os,p ∈ objL H ps) (hr:Rising os) {k:Nat} {p:Nat} (hk:k<os.length) (hp:os.getD k 0=(p:Int)) {q:Nat} (hq:q<p+(chunk H.row p).toNat):∀j,k+1≤j→j≤os.length→(strRow H (os.take j)).getD q 0=(strRow H (os.take (k+1))).getD q 0:=by
 intro j
 induction j with
 |zero=>intro h _;omega
 |succ j ih=>
  intro h1 h2
  by_cases e:k+1=j+1
  ·rw[e]
  ·rw[←ih (by omega) (by omega),strRow_next (by omega)]
   have hap:=apart_rising hA (fun x hx=>(objL_mem (ho x hx)).1) hr (k:=j) (by omega) (p:Int) (by
    rw[←hp]
    have hkj:k<(os.take j).length:=by rw[List.length_take];omega
    have:(os.take j)[k]=os.getD k 0:=by rw[List.getElem_take,List.getD_eq_getElem?_getD,List.getElem?_eq_getElem hk];rfl
    rw[←this]
    exact List.getElem_mem hkj)
   rw[Int.toNat_natCast]at hap
   have hmj:os.getD j 0 ∈ os:=by rw[List.getD_eq_getElem?_getD,List.getElem?_eq_getElem (by omega)];exact List.getElem_mem _
   unfold strAt
   split
   ·rfl
   ·have D:=dif_row hA ho j (by omega)
    have ol:=obj_len hA (ho _ hmj)
    have hl:(os.getD j 0).toNat+1+((slotsOf H (os.getD j 0)).map (fol H)).length≤(strRow H (os.take j)).length:=by rw[List.length_map,D.len];exact ol
    rw[putR_get hl,if_neg (by omega)]
theorem isStr_is {H:Hp} {ps:List Int} (R:Rt H ps) (hr:Rising (objL H ps)):isStr H ps = !((strW H ps).any (toNote H)):=by
 have hA:=apart_of R.some'
 have win:∀x ∈ strW H ps,wordIn H ps x=true:=fun x hx=>by
  unfold strW at hx
  rcases List.mem_append.1 hx with hx|hx
  ·exact R.root_in hx
  ·obtain⟨p,hp,hx⟩:=List.mem_flatMap.1 hx
   have hs:=R.slots
   unfold slotsOk at hs
   rw[List.all_eq_true]at hs
   have h1:=hs _ (objL_mem (List.mem_filter.1 hp).1).1
   rw[List.all_eq_true]at h1
   exact h1 x hx
 have key:isStr H ps=true↔∀x ∈ strW H ps,fol H x=x:=by
  constructor
  ·intro h
   unfold isStr at h
   simp only[Bool.and_eq_true,decide_eq_true_eq]at h
   obtain⟨h1,h2,h3⟩:=h
   intro x hx
   unfold strW at hx
   rcases List.mem_append.1 hx with hx|hx
   ·rcases List.mem_append.1 hx with hx|hx
    ·exact map_fix_at h2 x hx
    ·exact map_fix_at h3 x hx
   ·obtain⟨p,hp,hx⟩:=List.mem_flatMap.1 hx
    obtain⟨hpo,hpn⟩:=List.mem_filter.1 hp
    obtain⟨k,hk,ek⟩:=List.getElem_of_mem hpo
    obtain⟨j,ej,hc,hjl⟩:=hA.nat p (objL_mem hpo).1
    have h6:=(objL_mem hpo).2
    rw[ej,Int.toNat_natCast]at h6
    have ek':(objL H ps).getD k 0=(j:Int):=by rw[List.getD_eq_getElem?_getD,List.getElem?_eq_getElem hk,Option.getD_some,ek,ej]
    obtain⟨i,hi,ei⟩:=List.getElem_of_mem hx
    have se:=slots_end hc h6
    rw[ej]at hi
    have D:=dif_row hA (fun p hp=>hp) k (by omega)
    have hn:ntH H (j:Int)=false:=by rw[←ej];simpa using hpn
    have hl:j+1+((slotsOf H (j:Int)).map (fol H)).length≤(strRow H ((objL H ps).take k)).length:=by rw[List.length_map,D.len];have:=chunk_bounds H.row j;omega
    have e1:(strRow H ((objL H ps).take (k+1))).getD (j+1+i) 0=fol H ((slotsOf H (j:Int)).getD i 0):=by
     rw[strRow_next hk,ek']
     unfold strAt
     rw[if_neg (by rw[hn];decide),Int.toNat_natCast,putR_get hl,if_pos (by rw[List.length_map];omega),show j+1+i-(j+1)=i by omega,List.getD_eq_getElem?_getD,List.getElem?_map,List.getElem?_eq_getElem hi,List.getD_eq_getElem?_getD,List.getElem?_eq_getElem hi]
     rfl
    have e2:=row_done hA (fun p hp=>hp) hr hk ek' (q:=j+1+i) (by omega) (objL H ps).length (by omega) (Nat.le_refl _)
    rw[List.take_length,h1,e1]at e2
    have e3:(slotsOf H (j:Int)).getD i 0=H.row.getD (j+1+i) 0:=slots_getD (by have:=slots_len (H:=H) hc;omega)
    have e4:(slotsOf H (j:Int)).getD i 0=x:=by
     rw[List.getD_eq_getElem?_getD,List.getElem?_eq_getElem hi,Option.getD_some,←ei]
     congr 1
     rw[ej]
    rw[←e3,e4]at e2
    exact e2.symm
  ·intro h
   unfold isStr
   simp only[Bool.and_eq_true,decide_eq_true_eq]
   refine⟨?_,map_fix (fun x hx=>h x (by unfold strW;simp[hx])),map_fix (fun x hx=>h x (by unfold strW;simp[hx]))⟩
   have:∀k,k≤(objL H ps).length→strRow H ((objL H ps).take k)=H.row:=by
    intro k
    induction k with
    |zero=>intro _;rfl
    |succ k ih=>
     intro hk
     have hm:(objL H ps).getD k 0 ∈ objL H ps:=by rw[List.getD_eq_getElem?_getD,List.getElem?_eq_getElem (by omega)];exact List.getElem_mem _
     rw[strRow_next (by omega),ih (by omega)]
     unfold strAt
     split
     ·rfl
     ·rename_i hn
      have em:(slotsOf H ((objL H ps).getD k 0)).map (fol H)=slotsOf H ((objL H ps).getD k 0):=by
       refine map_fix (fun x hx=>h x ?_)
       unfold strW
       exact List.mem_append.2 (.inr (List.mem_flatMap.2 ⟨_,List.mem_filter.2 ⟨hm,by simpa using hn⟩,hx⟩))
      rw[em]
      exact putR_self (by have:=obj_len hA hm;unfold slotsOf at this;exact this)
   have:=this _ (Nat.le_refl _)
   rwa [List.take_length]at this
 rw[Bool.eq_iff_iff,key,Bool.not_eq_true',List.any_eq_false]
 constructor
 ·intro h x hx
  have:=(R.followed (win x hx)).2
  rw[h x hx]at this
  rw[this]
  decide
 ·intro h x hx
  refine fol_stop ?_
  have:=h x hx
  cases e:toNote H x
  ·rfl
  ·exact absurd e this
def isCl (H:Hp) (L:List Int):Bool:=L.all (fun p=>(slotsOf H p).all (fun x => !(isA x && !(decide (av x ∈ L)))))
def isClP (H:Hp) (L:List Int):Bool:=L.all (fun p=>(slotsOf H p).all (fun x => !(lostW H L x)))
theorem isCl_is {H:Hp} {ps L:List Int} (R:Rt H ps) (hr:Rising (objL H ps)) (hL:IsMarks H L) (hs:isStr H ps=true):isClP H L=isCl H L:=by
 rw[isStr_is R hr,Bool.not_eq_true',List.any_eq_false]at hs
 unfold isCl isClP
 rw[Bool.eq_iff_iff,List.all_eq_true,List.all_eq_true]
 have e:∀p ∈ L,∀x ∈ slotsOf H p,lostW H L x=(isA x && !(decide (av x ∈ L))):=fun p hp x hx=>by
  have o:=R.mk_at ((hL.2 p).1 hp)
  have hn:toNote H x=false:=by
   have:=hs x (by
    unfold strW
    refine List.mem_append.2 (.inr (List.mem_flatMap.2 ⟨p,List.mem_filter.2 ⟨marks_objL R hL p hp,?_⟩,hx⟩))
    have:=o.2.2
    unfold fm at this
    unfold ntH
    simpa using this)
   cases q:toNote H x
   ·rfl
   ·exact absurd q this
  unfold lostW tgt
  rw[fol_stop hn]
  cases isA x<;>simp
 constructor
 ·intro h p hp
  have:=h p hp
  rw[List.all_eq_true]at this ⊢
  intro x hx
  rw[←e p hp x hx];exact this x hx
 ·intro h p hp
  have:=h p hp
  rw[List.all_eq_true]at this ⊢
  intro x hx
  rw[e p hp x hx];exact this x hx
def swpA (H:Hp) (ps L:List Int):Hp:=if (isStr H ps&&isCl H L)=true then swpF H ps L else H
def swpOk (H:Hp) (L:List Int):Hp:=if heapOk H=true then swpA H ((placesR H).getD []) L else hp0
end Go.Proofs.YtocidankimefpaaGreatDoor.hp
namespace Go.Proofs.YtocidankimefpaaGreatDoor.hp
open Go.RowKit rows heads words walks region
set_option maxRecDepth 100000
set_option linter.unusedVariables false
set_option linter.unusedSimpArgs false
set_option maxHeartbeats 8000000 in
theorem l10Follow_any {w:World} {vr vo vm vs:Value} {H:Hp} (h:HpAt w vr vo vm vs H) {ps:List Int} (R:Rt H ps) (x:Int) (hx:wordIn H ps x=true) :
    Calls Tryz.prog 91 #[hpv H vr vo vm vs,.int .i64 x] w fun e w'=>e = .returned (.int .i64 (fol H x))∧Below w.heap.size w w':=by
 obtain⟨a1,c1,a2,c2,a3,c3,a4,c4,e1,e2,e3,e4⟩:=hpAt_slices h
 subst e1 e2 e3 e4
 have B0:Below w.heap.size w (w.alloc (hpb H (.slice a1 H.row.length c1) (.slice a2 H.roots.length c2) (.slice a3 H.mourned.length c3) (.slice a4 H.seen.length c4))):=(Below.refl _ _).alloc (Nat.le_refl _) _
 have HB0:Hid _:=B0
 have HT0:Hid _:=nine_new w H (.slice a1 H.row.length c1) (.slice a2 H.roots.length c2) (.slice a3 H.mourned.length c3) (.slice a4 H.seen.length c4)
 have HH:Hid _:=h
 obtain⟨A,hA⟩:∃A,fol H x=A:=⟨_,rfl⟩
 rw[hA]
 have HA:Hid _:=hA
 have HR:Hid _:=R
 have HX:Hid _:=hx
 clear h B0 hA R hx
 go_enter Tryz.func91,Tryz.ntmps91
 go_wp2_with fail
 go_loopw [1,5,6] (fun u _ _ wz=>∃y:Int,u = .int .i64 y∧wordIn H ps y=true∧fol H y=A∧Nine wz w.heap.size 26 (.int .i64 H.half) (.int .i64 H.old) (.slice a1 H.row.length c1) (.int .i64 H.side) (.int .i64 H.top) (.slice a2 H.roots.length c2) (.slice a3 H.mourned.length c3) (.slice a4 H.seen.length c4) (.int .i64 H.seed)∧Below w.heap.size w wz) (fun u _ _ _=>rk H (intOf u))
 case atStart=>exact⟨x,rfl,HX.out,HA.out,HT0.out,HB0.out⟩
 case round=>
  obtain⟨y,rfl,hy,hF,hT,hB⟩:=hrel
  clear HT0 HB0 HA HX
  obtain⟨⟨z0,z1,z2,z3,z4⟩,⟨z5,z6,z7,z8⟩,_⟩:=nine_cells hT
  have sr:=hB.size
  have SA:=sAddrOf_any y
  have HT:Hid _:=hT
  have HB:Hid _:=hB
  have HF:Hid _:=hF
  cases dA:isA y
  ·have HE:Hid (A=y):=by show _=_;rw[←hF];exact fol_stop (by unfold toNote;rw[dA];rfl)
   rw[dA]at SA
   clear hT hB hF hy dA
   go_wp2_with (go_at_call 87;refine (SA _).mono ?_;clear SA;rintro e w3 ⟨rfl,hw3⟩;rw[hw3];clear hw3 w3)
   go_ret
   exact⟨by rw[HE.out];rfl,HB.out⟩
  ·rw[dA]at SA
   obtain⟨hm,_⟩:=word_place hy dA
   obtain⟨j,hj,hjl,_⟩:=HR.out.plc _ hm
   have hI:=(hpAt_below HH.out hB).1
   have L4:=l4Head_any hI j hjl
   unfold hw at L4
   have HST:Hid (toNote H y=false→A=y):=fun e=>by rw[←hF];exact fol_stop e
   have HNT:Hid (toNote H y=true→_):=fun e=>HR.out.note hy e
   have htn:toNote H y=(uF (H.row.getD j 0)==7):=by unfold toNote ntH;rw[dA,hj,Int.toNat_natCast];rfl
   have hnw:noteW H y=H.row.getD (j+1) 0:=by unfold noteW;rw[hj,Int.toNat_natCast]
   simp only[hnw,hj,Int.toNat_natCast]at HNT
   rw[hj]at SA
   generalize uF (H.row.getD j 0)=f at *
   generalize uS (H.row.getD j 0)=s at *
   generalize uC (H.row.getD j 0)=c at *
   generalize uH (H.row.getD j 0)=g at *
   generalize uP (H.row.getD j 0)=p0 at *
   generalize uM (H.row.getD j 0)=m at *
   have FF:=field_format s f c g p0 m
   by_cases h7:f=7
   ·obtain⟨hj1,n2,n3,n4,n5⟩:=HNT.out (by rw[htn,h7];rfl)
    subst h7
    obtain⟨a',c',e',_,_,_,hcc⟩:=hI
    have e1:a1=a':=by injection e'
    subst e1
    obtain⟨b,off,rfl,hb,hcc⟩:=hcc (by omega)
    have x1:=hcc (j+1) hj1
    have HN:Hid (wordIn H ps (H.row.getD (j+1) 0)=true∧fol H (H.row.getD (j+1) 0)=A∧rk H (H.row.getD (j+1) 0)<rk H y):=⟨n2,by rw[←n4];exact hF,n5⟩
    generalize H.row.getD (j+1) 0=z at *
    have hlen:=HR.out.len
    have hj0:j≤1000:=by omega
    have hj1':((j:Int)+1).toNat=j+1:=by omega
    have hj2:(0:Int)≤(j:Int)+1:=by omega
    have hj3:(j:Int)+1<(H.row.length:Int):=by omega
    clear hT hB hF hy hcc e' htn hnw HST HNT n2 n3 n4 n5 dA hm hj hjl
    go_wp2_with (first
     |(go_at_call 87;refine (SA _).mono ?_;clear SA;rintro e w3 ⟨rfl,hw3⟩;rw[hw3];clear hw3 w3)
     |(go_at_call 45;refine L4.mono ?_;clear L4;rintro e w2 ⟨rfl,b2⟩;have T2:=nine_below HT.out b2;have x2:=(b2.cell (p:=⟨b,off+(j+1),none⟩) hb).trans x1;clear z0 z1 z2 z3 z4 z5 z6 z7 z8 x1;obtain⟨⟨z0,z1,z2,z3,z4⟩,⟨z5,z6,z7,z8⟩,_⟩:=nine_cells T2;have HT2:Hid _:=T2;have HB2:Hid _:=HB.out.trans (b2.mono sr);clear b2 T2))
    exact⟨⟨z,rfl,HN.out.1,HN.out.2.1,HT2.out,HB2.out⟩,HN.out.2.2⟩
   ·have h7':(f != 7)=true:=by simp[h7]
    have HE:Hid (A=y):=HST.out (by rw[htn];simpa using h7)
    clear hT hB hF hy htn hnw HST HNT dA hm hj hjl hI
    go_wp2_with (first
     |(go_at_call 87;refine (SA _).mono ?_;clear SA;rintro e w3 ⟨rfl,hw3⟩;rw[hw3];clear hw3 w3)
     |(go_at_call 45;refine L4.mono ?_;clear L4;rintro e w2 ⟨rfl,b2⟩;have HB2:Hid _:=HB.out.trans (b2.mono sr);clear b2))
    go_ret
    exact⟨by rw[HE.out];rfl,HB2.out⟩
set_option maxHeartbeats 8000000 in
theorem l10Follow_sim {w:World} {vr vo vm vs:Value} {H H':Hp} (h:HpAt w vr vo vm vs H') {ps:List Int} (R:Rt H ps) (S:Sim H H' ps) (x:Int) (hx:wordIn H ps x=true) :
    Calls Tryz.prog 91 #[hpv H' vr vo vm vs,.int .i64 x] w fun e w'=>e = .returned (.int .i64 (fol H x))∧Below w.heap.size w w':=by
 obtain⟨a1,c1,a2,c2,a3,c3,a4,c4,e1,e2,e3,e4⟩:=hpAt_slices h
 subst e1 e2 e3 e4
 have B0:Below w.heap.size w (w.alloc (hpb H' (.slice a1 H'.row.length c1) (.slice a2 H'.roots.length c2) (.slice a3 H'.mourned.length c3) (.slice a4 H'.seen.length c4))):=(Below.refl _ _).alloc (Nat.le_refl _) _
 have HB0:Hid _:=B0
 have HT0:Hid _:=nine_new w H' (.slice a1 H'.row.length c1) (.slice a2 H'.roots.length c2) (.slice a3 H'.mourned.length c3) (.slice a4 H'.seen.length c4)
 have HH:Hid _:=h
 obtain⟨A,hA⟩:∃A,fol H x=A:=⟨_,rfl⟩
 rw[hA]
 have HA:Hid _:=hA
 have HR:Hid _:=R
 have HS:Hid _:=S
 have HX:Hid _:=hx
 clear h B0 hA R hx S
 go_enter Tryz.func91,Tryz.ntmps91
 go_wp2_with fail
 go_loopw [1,5,6] (fun u _ _ wz=>∃y:Int,u = .int .i64 y∧wordIn H ps y=true∧fol H y=A∧Nine wz w.heap.size 26 (.int .i64 H'.half) (.int .i64 H'.old) (.slice a1 H'.row.length c1) (.int .i64 H'.side) (.int .i64 H'.top) (.slice a2 H'.roots.length c2) (.slice a3 H'.mourned.length c3) (.slice a4 H'.seen.length c4) (.int .i64 H'.seed)∧Below w.heap.size w wz) (fun u _ _ _=>rk H (intOf u))
 case atStart=>exact⟨x,rfl,HX.out,HA.out,HT0.out,HB0.out⟩
 case round=>
  obtain⟨y,rfl,hy,hF,hT,hB⟩:=hrel
  clear HT0 HB0 HA HX
  obtain⟨⟨z0,z1,z2,z3,z4⟩,⟨z5,z6,z7,z8⟩,_⟩:=nine_cells hT
  have sr:=hB.size
  have SA:=sAddrOf_any y
  have HT:Hid _:=hT
  have HB:Hid _:=hB
  have HF:Hid _:=hF
  cases dA:isA y
  ·have HE:Hid (A=y):=by show _=_;rw[←hF];exact fol_stop (by unfold toNote;rw[dA];rfl)
   rw[dA]at SA
   clear hT hB hF hy dA
   go_wp2_with (go_at_call 87;refine (SA _).mono ?_;clear SA;rintro e w3 ⟨rfl,hw3⟩;rw[hw3];clear hw3 w3)
   go_ret
   exact⟨by rw[HE.out];rfl,HB.out⟩
  ·rw[dA]at SA
   obtain⟨hm,_⟩:=word_place hy dA
   obtain⟨j,hj,hjl0,_⟩:=HR.out.plc _ hm
   have hjl:j<H'.row.length:=by rw[HS.out.len];exact hjl0
   have hI:=(hpAt_below HH.out hB).1
   have L4:=l4Head_any hI j hjl
   unfold hw at L4
   have HST:Hid (toNote H y=false→A=y):=fun e=>by rw[←hF];exact fol_stop e
   have HNT:Hid (toNote H y=true→_):=fun e=>HR.out.note hy e
   rw[hj]at hm
   have htn:toNote H y=(uF (H'.row.getD j 0)==7):=by unfold toNote ntH;rw[dA,hj,Int.toNat_natCast,HS.out.head j hm];rfl
   have HNW:Hid (uF (H'.row.getD j 0)=7→noteW H y=H'.row.getD (j+1) 0):=fun e7=>by
    rw[HS.out.head j hm]at e7
    unfold noteW
    rw[hj,Int.toNat_natCast,HS.out.second j hm (.inl e7)]
   have hj1l:(av y).toNat+1=j+1:=by rw[hj,Int.toNat_natCast]
   have HJ1:Hid _:=hj1l
   have HLN:Hid _:=HS.out.len
   rw[hj]at SA
   generalize uF (H'.row.getD j 0)=f at *
   generalize uS (H'.row.getD j 0)=s at *
   generalize uC (H'.row.getD j 0)=c at *
   generalize uH (H'.row.getD j 0)=g at *
   generalize uP (H'.row.getD j 0)=p0 at *
   generalize uM (H'.row.getD j 0)=m at *
   have FF:=field_format s f c g p0 m
   by_cases h7:f=7
   ·obtain⟨hj1,n2,n3,n4,n5⟩:=HNT.out (by rw[htn,h7];rfl)
    rw[HJ1.out,←HLN.out]at hj1
    rw[HNW.out h7]at n2 n4 n5
    subst h7
    obtain⟨a',c',e',_,_,_,hcc⟩:=hI
    have e1:a1=a':=by injection e'
    subst e1
    obtain⟨b,off,rfl,hb,hcc⟩:=hcc (by omega)
    have x1:=hcc (j+1) hj1
    have HN:Hid (wordIn H ps (H'.row.getD (j+1) 0)=true∧fol H (H'.row.getD (j+1) 0)=A∧rk H (H'.row.getD (j+1) 0)<rk H y):=⟨n2,by rw[←n4];exact hF,n5⟩
    generalize H'.row.getD (j+1) 0=z at *
    have hlen:=HR.out.len
    have hj0:j≤1000:=by have:=HLN.out;omega
    have hj1':((j:Int)+1).toNat=j+1:=by omega
    have hj2:(0:Int)≤(j:Int)+1:=by omega
    have hj3:(j:Int)+1<(H'.row.length:Int):=by omega
    clear hT hB hF hy hcc e' htn HNW HST HNT n2 n3 n4 n5 dA hm hj hjl hjl0 hlen hj1l
    go_wp2_with (first
     |(go_at_call 87;refine (SA _).mono ?_;clear SA;rintro e w3 ⟨rfl,hw3⟩;rw[hw3];clear hw3 w3)
     |(go_at_call 45;refine L4.mono ?_;clear L4;rintro e w2 ⟨rfl,b2⟩;have T2:=nine_below HT.out b2;have x2:=(b2.cell (p:=⟨b,off+(j+1),none⟩) hb).trans x1;clear z0 z1 z2 z3 z4 z5 z6 z7 z8 x1;obtain⟨⟨z0,z1,z2,z3,z4⟩,⟨z5,z6,z7,z8⟩,_⟩:=nine_cells T2;have HT2:Hid _:=T2;have HB2:Hid _:=HB.out.trans (b2.mono sr);clear b2 T2))
    exact⟨⟨z,rfl,HN.out.1,HN.out.2.1,HT2.out,HB2.out⟩,HN.out.2.2⟩
   ·have h7':(f != 7)=true:=by simp[h7]
    have HE:Hid (A=y):=HST.out (by rw[htn];simpa using h7)
    clear hT hB hF hy htn HNW HST HNT dA hm hj hjl hjl0 hI hj1l
    go_wp2_with (first
     |(go_at_call 87;refine (SA _).mono ?_;clear SA;rintro e w3 ⟨rfl,hw3⟩;rw[hw3];clear hw3 w3)
     |(go_at_call 45;refine L4.mono ?_;clear L4;rintro e w2 ⟨rfl,b2⟩;have HB2:Hid _:=HB.out.trans (b2.mono sr);clear b2))
    go_ret
    exact⟨by rw[HE.out];rfl,HB2.out⟩
structure Dst (w:World) (P base gr go gm:Nat) (vs:Value):Prop where
 ro:gr≠go
 rm:gr≠gm
 om:go≠gm
 pr:P≠gr
 po:P≠go
 pm:P≠gm
 sr:∀k ∈ blk vs,k≠gr∧k≠go∧k≠gm∧k≠P
 lt:gr<w.heap.size∧go<w.heap.size∧gm<w.heap.size∧P<w.heap.size
structure SS (w W:World) (P base gr go gm cr co cm nr no nm:Nat) (vs vl:Value) (H:Hp) (os xs rs ms:List Int):Prop where
 nine:Nine W P 26 (.int .i64 H.half) (.int .i64 H.old) (.slice (some ⟨gr,0,none⟩) nr cr) (.int .i64 H.side) (.int .i64 H.top) (.slice (some ⟨go,0,none⟩) no co) (.slice (some ⟨gm,0,none⟩) nm cm) vs (.int .i64 H.seed)
 row:W.ownsRow base 2 1 (.slice (some ⟨gr,0,none⟩) nr cr) nr (cellsOf xs)
 roots:W.ownsRow base 2 1 (.slice (some ⟨go,0,none⟩) no co) no (cellsOf rs)
 mour:W.ownsRow base 2 1 (.slice (some ⟨gm,0,none⟩) nm cm) nm (cellsOf ms)
 seen:rows.Own W base vs H.seen
 list:rows.Own W w.heap.size vl os
 ch:Ch [P,gr,go,gm] w W
 lr:xs.length=nr
 lo:rs.length=no
 lm:ms.length=nm
theorem SS.below {W W':World} {w:World} {P base gr go gm cr co cm nr no nm:Nat} {vs vl:Value} {H:Hp} {os:List Int} {xs rs ms:List Int} (h:SS w W P base gr go gm cr co cm nr no nm vs vl H os xs rs ms) (hb:Below W.heap.size W W'):SS w W' P base gr go gm cr co cm nr no nm vs vl H os xs rs ms:=
 ⟨nine_below h.nine hb,row_ch (S:=[]) h.row (ch_below hb) (by simp),row_ch (S:=[]) h.roots (ch_below hb) (by simp),row_ch (S:=[]) h.mour (ch_below hb) (by simp),own_below h.seen hb,own_below h.list hb,h.ch.trans (ch_below hb),h.lr,h.lo,h.lm⟩
theorem blk_of (g n c:Nat):blk (.slice (some ⟨g,0,none⟩) n c)=[g]:=rfl
theorem cells_set (xs:List Int) (i:Nat) (x:Int):(cellsOf xs).set i (.int .i64 x)=cellsOf (xs.set i x):=by simp[cellsOf,List.map_set]
theorem SS.setRow {W:World} {w:World} {P base gr go gm cr co cm nr no nm:Nat} {vs vl:Value} {H:Hp} {os:List Int} {xs rs ms:List Int} (h:SS w W P base gr go gm cr co cm nr no nm vs vl H os xs rs ms) (d:Dst w P base gr go gm vs) (i:Nat) (x:Int):SS w (W.setCell ⟨gr,i,none⟩ (.int .i64 x)) P base gr go gm cr co cm nr no nm vs vl H os (xs.set i x) rs ms:=
 ⟨nine_ch h.nine (one_ch _ gr _ _) (by simp;exact d.pr),by have:=(World.ownsRow.stored h.row i (.int .i64 x)).1;rw[cells_set]at this;exact this,row_ch (S:=[gr]) h.roots (one_ch _ _ _ _) (fun k hk=>by rw[blk_of]at hk;simp at hk ⊢; have:=d.ro;omega),row_ch (S:=[gr]) h.mour (one_ch _ _ _ _) (fun k hk=>by rw[blk_of]at hk;simp at hk ⊢; have:=d.rm;omega),row_ch (S:=[gr]) h.seen (one_ch _ _ _ _) (fun k hk=>by simp;exact (d.sr k hk).1),row_ch (S:=[gr]) h.list (one_ch _ _ _ _) (fun k hk=>by have:=(blk_lt h.list k hk).1;have:=d.lt.1;simp;omega),h.ch.trans ((one_ch _ gr _ _).mono (by simp)),by simpa using h.lr,by simpa using h.lo,by simpa using h.lm⟩
theorem SS.setRoot {W:World} {w:World} {P base gr go gm cr co cm nr no nm:Nat} {vs vl:Value} {H:Hp} {os:List Int} {xs rs ms:List Int} (h:SS w W P base gr go gm cr co cm nr no nm vs vl H os xs rs ms) (d:Dst w P base gr go gm vs) (i:Nat) (x:Int):SS w (W.setCell ⟨go,i,none⟩ (.int .i64 x)) P base gr go gm cr co cm nr no nm vs vl H os xs (rs.set i x) ms:=
 ⟨nine_ch h.nine (one_ch _ go _ _) (by simp;exact d.po),row_ch (S:=[go]) h.row (one_ch _ _ _ _) (fun k hk=>by rw[blk_of]at hk;simp at hk ⊢; have:=d.ro;omega),by have:=(World.ownsRow.stored h.roots i (.int .i64 x)).1;rw[cells_set]at this;exact this,row_ch (S:=[go]) h.mour (one_ch _ _ _ _) (fun k hk=>by rw[blk_of]at hk;simp at hk ⊢; have:=d.om;omega),row_ch (S:=[go]) h.seen (one_ch _ _ _ _) (fun k hk=>by simp;exact (d.sr k hk).2.1),row_ch (S:=[go]) h.list (one_ch _ _ _ _) (fun k hk=>by have:=(blk_lt h.list k hk).1;have:=d.lt.2.1;simp;omega),h.ch.trans ((one_ch _ go _ _).mono (by simp)),by simpa using h.lr,by simpa using h.lo,by simpa using h.lm⟩
theorem SS.setMour {W:World} {w:World} {P base gr go gm cr co cm nr no nm:Nat} {vs vl:Value} {H:Hp} {os:List Int} {xs rs ms:List Int} (h:SS w W P base gr go gm cr co cm nr no nm vs vl H os xs rs ms) (d:Dst w P base gr go gm vs) (i:Nat) (x:Int):SS w (W.setCell ⟨gm,i,none⟩ (.int .i64 x)) P base gr go gm cr co cm nr no nm vs vl H os xs rs (ms.set i x):=
 ⟨nine_ch h.nine (one_ch _ gm _ _) (by simp;exact d.pm),row_ch (S:=[gm]) h.row (one_ch _ _ _ _) (fun k hk=>by rw[blk_of]at hk;simp at hk ⊢; have:=d.rm;omega),row_ch (S:=[gm]) h.roots (one_ch _ _ _ _) (fun k hk=>by rw[blk_of]at hk;simp at hk ⊢; have:=d.om;omega),by have:=(World.ownsRow.stored h.mour i (.int .i64 x)).1;rw[cells_set]at this;exact this,row_ch (S:=[gm]) h.seen (one_ch _ _ _ _) (fun k hk=>by simp;exact (d.sr k hk).2.2.1),row_ch (S:=[gm]) h.list (one_ch _ _ _ _) (fun k hk=>by have:=(blk_lt h.list k hk).1;have:=d.lt.2.2.1;simp;omega),h.ch.trans ((one_ch _ gm _ _).mono (by simp)),by simpa using h.lr,by simpa using h.lo,by simpa using h.lm⟩
theorem SS.hp {W:World} {w:World} {P base gr go gm cr co cm nr no nm:Nat} {vs vl:Value} {H:Hp} {os:List Int} {xs rs ms:List Int} (h:SS w W P base gr go gm cr co cm nr no nm vs vl H os xs rs ms):HpAt W (.slice (some ⟨gr,0,none⟩) xs.length cr) (.slice (some ⟨go,0,none⟩) rs.length co) (.slice (some ⟨gm,0,none⟩) ms.length cm) vs { H with row:=xs,roots:=rs,mourned:=ms }:=by
 have h1:=h.row
 have h2:=h.roots
 have h3:=h.mour
 rw[←h.lr]at h1
 rw[←h.lo]at h2
 rw[←h.lm]at h3
 exact⟨own_ints h1,own_ints h2,own_ints h3,own_ints h.seen⟩
theorem SS.rowCell {W:World} {w:World} {P base gr go gm cr co cm nr no nm:Nat} {vs vl:Value} {H:Hp} {os:List Int} {xs rs ms:List Int} (h:SS w W P base gr go gm cr co cm nr no nm vs vl H os xs rs ms) {q:Nat} (hq:q<xs.length):W.cell? ⟨gr,q,none⟩=some (.int .i64 (xs.getD q 0))∧W.frozen? ⟨gr,q,none⟩=false:=by
 refine⟨?_,World.ownsRow.frozenAt h.row q⟩
 rw[World.ownsRow.cellAt h.row q (by rw[←h.lr];omega)]
 simp[cellsOf,hq,List.getD_eq_getElem?_getD]
theorem SS.rootCell {W:World} {w:World} {P base gr go gm cr co cm nr no nm:Nat} {vs vl:Value} {H:Hp} {os:List Int} {xs rs ms:List Int} (h:SS w W P base gr go gm cr co cm nr no nm vs vl H os xs rs ms) {q:Nat} (hq:q<rs.length):W.cell? ⟨go,q,none⟩=some (.int .i64 (rs.getD q 0))∧W.frozen? ⟨go,q,none⟩=false:=by
 refine⟨?_,World.ownsRow.frozenAt h.roots q⟩
 rw[World.ownsRow.cellAt h.roots q (by rw[←h.lo];omega)]
 simp[cellsOf,hq,List.getD_eq_getElem?_getD]
theorem SS.mourCell {W:World} {w:World} {P base gr go gm cr co cm nr no nm:Nat} {vs vl:Value} {H:Hp} {os:List Int} {xs rs ms:List Int} (h:SS w W P base gr go gm cr co cm nr no nm vs vl H os xs rs ms) {q:Nat} (hq:q<ms.length):W.cell? ⟨gm,q,none⟩=some (.int .i64 (ms.getD q 0))∧W.frozen? ⟨gm,q,none⟩=false:=by
 refine⟨?_,World.ownsRow.frozenAt h.mour q⟩
 rw[World.ownsRow.cellAt h.mour q (by rw[←h.lm];omega)]
 simp[cellsOf,hq,List.getD_eq_getElem?_getD]
end Go.Proofs.YtocidankimefpaaGreatDoor.hp
