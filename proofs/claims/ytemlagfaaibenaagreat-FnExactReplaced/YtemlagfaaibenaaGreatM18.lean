/-
  Chapter 9 as the specification has it: HeapOk and Young. Chapter 10 as lists: what a word leads to, notes followed. Chapter 13 as lists: what is marked. Chapter 9 as the specification has it: the places of all objects. Chapter 10 as lists: a heap made straight.
-/
import Derived.Test.YtemlagfaaibenaaGreatHeapS7
import Derived.Test.YtemlagfaaibenaaGreatM4
import Derived.Test.YtemlagfaaibenaaGreatM17
namespace Go.Proofs.YtemlagfaaibenaaGreat.hp
open Go.RowKit rows heads words walks region
set_option maxRecDepth 100000
set_option linter.unusedVariables false
set_option linter.unusedSimpArgs false
theorem right_some {H:Hp} (h:rightB H=true):∃ps,placesR H=some ps:=by
 unfold rightB at h
 cases d:placesR H with
 |none=>rw[d]at h;cases h
 |some ps=>exact⟨ps,rfl⟩
set_option maxHeartbeats 8000000 in
theorem sHeapOk_any {w:World} {vr vo vm vs:Value} {H:Hp} (h:HpAt w vr vo vm vs H) (hs:hpSize H≤1048576) :
    Calls Tryz.prog 25 #[hpv H vr vo vm vs] w fun e w'=>e = .returned (.bool (heapOk H))∧Below w.heap.size w w':=by
 obtain⟨_,_,_,hsl⟩:=hp_parts hs
 obtain⟨a1,c1,a2,c2,a3,c3,a4,c4,e1,e2,e3,e4⟩:=hpAt_slices h
 subst e1 e2 e3 e4
 have B0:Below w.heap.size w (w.alloc (hpb H (.slice a1 H.row.length c1) (.slice a2 H.roots.length c2) (.slice a3 H.mourned.length c3) (.slice a4 H.seen.length c4))):=(Below.refl _ _).alloc (Nat.le_refl _) _
 have T0:=nine_new w H (.slice a1 H.row.length c1) (.slice a2 H.roots.length c2) (.slice a3 H.mourned.length c3) (.slice a4 H.seen.length c4)
 have HT0:Hid _:=T0
 have HB0:Hid _:=B0
 have HH0:Hid (HpAt _ (.slice a1 H.row.length c1) (.slice a2 H.roots.length c2) (.slice a3 H.mourned.length c3) (.slice a4 H.seen.length c4) H):=hpAt_below h B0
 cases dr:rightB H
 ·have e:heapOk H=false:=by unfold heapOk;rw[dr];rfl
  rw[e]
  obtain⟨⟨z0,z1,z2,z3,z4⟩,⟨z5,z6,z7,z8⟩⟩:=nine_grow T0
  have HWD:Hid (∀x:Ext (w.alloc (hpb H (.slice a1 H.row.length c1) (.slice a2 H.roots.length c2) (.slice a3 H.mourned.length c3) (.slice a4 H.seen.length c4))).heap.size (w.alloc (hpb H (.slice a1 H.row.length c1) (.slice a2 H.roots.length c2) (.slice a3 H.mourned.length c3) (.slice a4 H.seen.length c4))),Calls Tryz.prog 48 #[hpv H (.slice a1 H.row.length c1) (.slice a2 H.roots.length c2) (.slice a3 H.mourned.length c3) (.slice a4 H.seen.length c4)] x.to fun e w''=>e = .returned (.bool false)∧∃y:Ext (w.alloc (hpb H (.slice a1 H.row.length c1) (.slice a2 H.roots.length c2) (.slice a3 H.mourned.length c3) (.slice a4 H.seen.length c4))).heap.size (w.alloc (hpb H (.slice a1 H.row.length c1) (.slice a2 H.roots.length c2) (.slice a3 H.mourned.length c3) (.slice a4 H.seen.length c4))),w''=y.to):=fun x=>calls_grow (Nat.le_refl _) (dr▸l9Right_any (hpAt_below HH0.out x.below))
  clear B0 T0 h e dr
  go_enter Tryz.func25,Tryz.ntmps25
  go_upto_region 1 with fail
  generalize (w.alloc (hpb H (.slice a1 H.row.length c1) (.slice a2 H.roots.length c2) (.slice a3 H.mourned.length c3) (.slice a4 H.seen.length c4)))=X at *
  haveI:=ext_any X
  refine region_grow (n:=X.heap.size) (by kernel_rfl) (by kernel_rfl) ?_
  repeat (go_big_quiet_step ((go_at_call 48;exact HWD.out _)))
  refine wpQuiet_nil ?_
  intro _ hw'
  obtain⟨x,rfl⟩:=hw'
  have HBE:Hid _:=HB0.out.trans (x.below.mono HB0.out.size)
  clear z0 z1 z2 z3 z4 z5 z6 z7 z8 HWD
  generalize x.to=W at *
  clear x this
  go_wp2
  go_ret
  exact⟨rfl,HBE.out⟩
 ·have e:heapOk H=decide (H.seen=seenL H):=by unfold heapOk;rw[dr];rfl
  rw[e]
  obtain⟨ps,hps⟩:=right_some dr
  obtain⟨N,_,r,u,_,hu,_,_⟩:=places_facts hps
  have HR9:Hid (∀W,Below (w.alloc (hpb H (.slice a1 H.row.length c1) (.slice a2 H.roots.length c2) (.slice a3 H.mourned.length c3) (.slice a4 H.seen.length c4))).heap.size (w.alloc (hpb H (.slice a1 H.row.length c1) (.slice a2 H.roots.length c2) (.slice a3 H.mourned.length c3) (.slice a4 H.seen.length c4))) W→Calls Tryz.prog 48 #[hpv H (.slice a1 H.row.length c1) (.slice a2 H.roots.length c2) (.slice a3 H.mourned.length c3) (.slice a4 H.seen.length c4)] W fun e w'=>e = .returned (.bool true)∧Below W.heap.size W w'):=fun W hW=>dr▸l9Right_any (hpAt_below HH0.out hW)
  have HS9:Hid (∀W,Below (w.alloc (hpb H (.slice a1 H.row.length c1) (.slice a2 H.roots.length c2) (.slice a3 H.mourned.length c3) (.slice a4 H.seen.length c4))).heap.size (w.alloc (hpb H (.slice a1 H.row.length c1) (.slice a2 H.roots.length c2) (.slice a3 H.mourned.length c3) (.slice a4 H.seen.length c4))) W→Calls Tryz.prog 50 #[hpv H (.slice a1 H.row.length c1) (.slice a2 H.roots.length c2) (.slice a3 H.mourned.length c3) (.slice a4 H.seen.length c4)] W fun e w'=>∃v',e = .returned v'∧rows.Own w' W.heap.size v' (seenL H)∧Below W.heap.size W w'):=fun W hW=>l9Seen_any (hpAt_below HH0.out hW) N hu
  generalize seenL H=S at *
  clear B0 h e dr hps N hu
  go_enter Tryz.func25,Tryz.ntmps25
  go_upto_region 1 with fail
  generalize (w.alloc (hpb H (.slice a1 H.row.length c1) (.slice a2 H.roots.length c2) (.slice a3 H.mourned.length c3) (.slice a4 H.seen.length c4)))=X at *
  obtain⟨⟨z0,z1,z2,z3,z4⟩,⟨z5,z6,z7,z8⟩,_⟩:=nine_cells T0
  clear T0
  go_region_law (first
   |(have hh:=HR9;clear hh;go_simp;go_at_call 48;refine (HR9.out _ (Below.refl _ _).drew).mono ?_;clear HR9;rintro e w2 ⟨rfl,b2⟩;have b2':Below X.heap.size X w2:=⟨b2.os,b2.tape,b2.output,b2.size,b2.block⟩;have HB2:Hid _:=b2';clear b2 b2' z0 z1 z2 z3 z4 z5 z6 z7 z8;obtain⟨⟨z0,z1,z2,z3,z4⟩,⟨z5,z6,z7,z8⟩,_⟩:=nine_cells (nine_below HT0.out HB2.out))
   |(have hh:=HS9;clear hh;go_simp;go_at_call 50;refine (HS9.out _ HB2.out).mono ?_;clear HS9;rintro e w3 ⟨v3,rfl,O3,b3⟩;have HB3:Hid (Below X.heap.size X w3):=HB2.out.trans (b3.mono HB2.out.size);have HSM:Hid _:=l1Same_any (intsAt_below HH0.out.2.2.2 HB3.out) (own_ints O3) hsl;obtain⟨sa,sn,sc,rfl⟩:=ints_slice (own_ints O3);clear O3 b3 z0 z1 z2 z3 z4 z5 z6 z7 z8;obtain⟨⟨z0,z1,z2,z3,z4⟩,⟨z5,z6,z7,z8⟩,_⟩:=nine_cells (nine_below HT0.out HB3.out))
   |(have hh:=HSM;clear hh;go_simp;go_at_call 49;refine Calls.mono HSM.out ?_;clear HSM;rintro e w4 ⟨rfl,q4⟩;have HB4:Hid (Below w.heap.size w w4):=(HB0.out.trans (HB3.out.mono HB0.out.size)).trans ((bel_of_drewN q4).mono (HB0.out.trans (HB3.out.mono HB0.out.size)).size);clear q4))
  all_goals (go_wp2)
  all_goals go_ret
  all_goals exact⟨rfl,HB4.out⟩
end Go.Proofs.YtemlagfaaibenaaGreat.hp
namespace Go.Proofs.YtemlagfaaibenaaGreat.hp
open Go.RowKit rows heads words walks
set_option maxRecDepth 100000
set_option linter.unusedVariables false
def toNote (H:Hp) (x:Int):Bool:=isA x&&ntH H (av x)
def noteW (H:Hp) (x:Int):Int:=H.row.getD ((av x).toNat+1) 0
def folL (H:Hp):Nat→Int→Int
 |0,x=>x
 |n+1,x=>if toNote H x=true then folL H n (noteW H x) else x
def rkL (H:Hp):Nat→Int→Nat
 |0,_=>0
 |n+1,x=>if toNote H x=true then rkL H n (noteW H x)+1 else 0
def fol (H:Hp) (x:Int):Int:=folL H 1000 x
def rk (H:Hp) (x:Int):Nat:=rkL H 1000 x
theorem fol_stop {H:Hp} {x:Int} (h:toNote H x=false):fol H x=x:=by
 unfold fol folL
 rw[if_neg (by rw[h];decide)]
theorem nx_note (H:Hp) (x:Int):nxH H (av x)=av (noteW H x):=rfl
theorem folL_more (H:Hp):∀(n:Nat) (x:Int),(isA x=true→ends (ntH H) (nxH H) n (av x)=true)→folL H n x=folL H (n+1) x∧rkL H n x=rkL H (n+1) x
 |0,x,h=>by
  have:toNote H x=false:=by
   unfold toNote
   cases e:isA x
   ·rfl
   ·cases h e
  unfold folL rkL
  rw[if_neg (by rw[this];decide),if_neg (by rw[this];decide)]
  exact⟨rfl,rfl⟩
 |n+1,x,h=>by
  cases e:toNote H x
  ·have e0:¬toNote H x=true:=by rw[e];decide
   constructor
   ·rw[folL,if_neg e0,folL,if_neg e0]
   ·rw[rkL,if_neg e0,rkL,if_neg e0]
  ·have e':=e
   unfold toNote at e'
   rw[Bool.and_eq_true]at e'
   have h1:=h e'.1
   unfold ends at h1
   rw[if_pos e'.2,nx_note]at h1
   obtain⟨i1,i2⟩:=folL_more H n (noteW H x) (fun _=>h1)
   constructor
   ·rw[folL,if_pos e,folL,if_pos e,i1]
   ·rw[rkL,if_pos e,rkL,if_pos e,i2]
structure Rt (H:Hp) (ps:List Int):Prop where
 some':placesR H=some ps
 plc:∀p ∈ ps,∃j:Nat,p=j∧j<H.row.length∧chunk H.row j≠0
 notes:Notes H ps
 fin:∀p ∈ ps,ends (ntH H) (nxH H) 1000 p=true
 slots:slotsOk H ps=true
 roots:H.roots.all (wordIn H ps)=true
 mourned:mournOk H ps=true
theorem rt_of {H:Hp} (h:rightB H=true):∃ps,Rt H ps:=by
 obtain⟨ps,hps⟩:=right_some h
 unfold rightB at h
 rw[hps]at h
 simp only[Bool.and_eq_true]at h
 obtain⟨⟨⟨h1,h2⟩,h3⟩,h4⟩:=h
 obtain⟨hp,hl⟩:=places_plc hps
 have hN:=notes_of hp h1
 refine⟨ps,hps,hp,hN,fun p hpp => ?_,h1,h3,h4⟩
 exact (fins_iff (notes_next hN) hpp (by omega)).2 ((endsOk_is hN).1 h2 p hpp)
theorem Rt.len {H:Hp} {ps:List Int} (R:Rt H ps):H.row.length≤1000:=by
 have N:=(places_facts R.some').1
 have:=N.len
 have:=N.half1
 have:=N.old1
 omega
theorem ok_right {H:Hp} (h:heapOk H=true):rightB H=true∧H.seen=seenL H:=by
 unfold heapOk at h
 rw[Bool.and_eq_true,decide_eq_true_eq]at h
 exact h
theorem word_place {H:Hp} {ps:List Int} {x:Int} (h:wordIn H ps x=true) (hA:isA x=true):av x ∈ ps∧uF (H.row.getD (av x).toNat 0)≠6:=by
 unfold wordIn at h
 rw[hA]at h
 simpa using (by simpa using h:isW x=true∧_).2
theorem Rt.note {H:Hp} {ps:List Int} (R:Rt H ps) {x:Int} (hx:wordIn H ps x=true) (hn:toNote H x=true):(av x).toNat+1<H.row.length∧wordIn H ps (noteW H x)=true∧isA (noteW H x)=true∧fol H x=fol H (noteW H x)∧rk H (noteW H x)<rk H x:=by
 have hn':=hn
 unfold toNote at hn'
 rw[Bool.and_eq_true]at hn'
 obtain⟨hA,hnt⟩:=hn'
 obtain⟨hm,_⟩:=word_place hx hA
 have h7:uF (H.row.getD (av x).toNat 0)=7:=by simpa [ntH] using hnt
 obtain⟨n1,n2,n3⟩:=R.notes _ hm h7
 have hf:=R.fin _ hm
 have hf':ends (ntH H) (nxH H) 999 (av (noteW H x))=true:=by
  unfold ends at hf
  rw[if_pos hnt,nx_note]at hf
  exact hf
 obtain⟨i1,i2⟩:=folL_more H 999 (noteW H x) (fun _=>hf')
 refine⟨n1,?_,n2,?_,?_⟩
 ·have hs:=R.slots
  unfold slotsOk at hs
  rw[List.all_eq_true]at hs
  have h1:=hs _ hm
  rw[List.all_eq_true]at h1
  refine h1 _ ?_
  unfold slotsOf cnS noteW
  rw[if_pos h7,List.mem_iff_getElem?]
  refine⟨0,?_⟩
  rw[List.getElem?_take,if_pos (by decide),List.getElem?_drop,Nat.add_zero,List.getElem?_eq_getElem n1,List.getD_eq_getElem?_getD,List.getElem?_eq_getElem n1];rfl
 ·show folL H 1000 x=folL H 1000 (noteW H x)
  rw[show (1000:Nat)=999+1 from rfl,folL,if_pos hn,i1]
 ·show rkL H 1000 (noteW H x)<rkL H 1000 x
  rw[show rkL H 1000 x=rkL H 999 (noteW H x)+1 by rw[show (1000:Nat)=999+1 from rfl,rkL,if_pos hn],i2]
  exact Nat.lt_succ_self _
theorem Rt.fol {H:Hp} {ps:List Int} (R:Rt H ps):∀(n:Nat) (x:Int),rk H x≤n→wordIn H ps x=true→wordIn H ps (fol H x)=true∧toNote H (hp.fol H x)=false
 |n,x,hr,hx=>by
  cases e:toNote H x
  ·rw[fol_stop e];exact⟨hx,e⟩
  ·obtain⟨_,h2,_,h4,h5⟩:=R.note hx e
   rw[h4]
   match n,hr with
   |0,hr=>omega
   |n+1,hr=>exact R.fol n _ (by omega) h2
theorem Rt.followed {H:Hp} {ps:List Int} (R:Rt H ps) {x:Int} (hx:wordIn H ps x=true):wordIn H ps (hp.fol H x)=true∧toNote H (hp.fol H x)=false:=R.fol _ x (Nat.le_refl _) hx
end Go.Proofs.YtemlagfaaibenaaGreat.hp
namespace Go.Proofs.YtemlagfaaibenaaGreat.hp
open Go.RowKit rows heads words walks region
set_option maxRecDepth 100000
set_option linter.unusedVariables false
set_option linter.unusedSimpArgs false
def isO (H:Hp) (p:Int):Bool:= !(uF (H.row.getD p.toNat 0)==6)
def objL (H:Hp) (ps:List Int):List Int:=ps.filter (isO H)
end Go.Proofs.YtemlagfaaibenaaGreat.hp
namespace Go.Proofs.YtemlagfaaibenaaGreat.hp
open Go.RowKit rows heads words walks
set_option maxRecDepth 100000
set_option linter.unusedVariables false
structure Apart (H:Hp) (ps:List Int):Prop where
 pair:ps.Pairwise (fun p q=>p+chunk H.row p.toNat≤q)
 nat:∀p ∈ ps,∃j:Nat,p=j∧chunk H.row j≠0∧j<H.row.length
theorem walkL_apart (xs:List Int) (t:Nat):∀(n k:Nat) (l:List Int),walkL xs t n k=some l→l.Pairwise (fun p q=>p+chunk xs p.toNat≤q)∧∀p ∈ l,(k:Int)≤p∧p+chunk xs p.toNat≤t:=by
 intro n
 induction n with
 |zero=>
  intro k l h
  unfold walkL at h
  split at h
  ·cases h
  ·cases h;exact⟨List.Pairwise.nil,fun x hx=>by simp at hx⟩
 |succ n ih=>
  intro k l h
  by_cases h1:k<t
  ·by_cases hb:chunk xs k=0∨(k:Int)+chunk xs k > t
   ·rw[walkL_bad _ _ _ _ h1 hb]at h;cases h
   ·rw[walkL_step _ _ _ _ h1 hb]at h
    obtain⟨l',hl',rfl⟩:=Option.map_eq_some_iff.1 h
    obtain⟨i1,i2⟩:=ih _ _ hl'
    have:=chunk_bounds xs k
    refine⟨List.Pairwise.cons (fun x hx => ?_) i1,fun x hx => ?_⟩
    ·have:=(i2 x hx).1
     rw[Int.toNat_natCast]
     omega
    ·rcases List.mem_cons.1 hx with rfl|hx
     ·rw[Int.toNat_natCast];omega
     ·have:=i2 x hx;omega
  ·rw[walkL_end _ _ _ _ h1]at h
   cases h;exact⟨List.Pairwise.nil,fun x hx=>by simp at hx⟩
theorem apart_of {H:Hp} {ps:List Int} (h:placesR H=some ps):Apart H ps:=by
 have hp:=(places_plc h).1
 obtain⟨N,_,r,u,hr,hu,_,rfl⟩:=places_facts h
 obtain⟨p1,m1⟩:=walkL_apart _ _ _ _ _ hr
 obtain⟨p2,m2⟩:=walkL_apart _ _ _ _ _ hu
 have:=N.room
 refine⟨List.pairwise_append.2 ⟨p1,p2,fun a ha b hb => ?_⟩,fun p hpp => ?_⟩
 ·have q1:=(m1 a ha).2
  have q2:=(m2 b hb).1
  omega
 ·obtain⟨j,a,b,c⟩:=hp p hpp
  exact⟨j,a,c,b⟩
theorem Apart.two {H:Hp} {ps:List Int} (h:Apart H ps) {i j:Nat} (hi:(i:Int) ∈ ps) (hj:(j:Int) ∈ ps) (hlt:i<j):(i:Int)+chunk H.row i≤j:=by
 obtain⟨a,ha,ea⟩:=List.getElem_of_mem hi
 obtain⟨b,hb,eb⟩:=List.getElem_of_mem hj
 have hP:=List.pairwise_iff_getElem.1 h.pair
 rcases Nat.lt_trichotomy a b with q|q|q
 ·have:=hP a b ha hb q
  rw[ea,eb,Int.toNat_natCast]at this
  exact this
 ·subst q
  rw[ea]at eb
  omega
 ·have:=hP b a hb ha q
  rw[ea,eb,Int.toNat_natCast]at this
  have c:=chunk_bounds H.row j
  omega
theorem objL_mem {H:Hp} {ps:List Int} {p:Int} (h:p ∈ objL H ps):p ∈ ps∧uF (H.row.getD p.toNat 0)≠6:=by
 obtain⟨a,b⟩:=List.mem_filter.1 h
 refine⟨a,?_⟩
 unfold isO at b
 simpa using b
end Go.Proofs.YtemlagfaaibenaaGreat.hp
