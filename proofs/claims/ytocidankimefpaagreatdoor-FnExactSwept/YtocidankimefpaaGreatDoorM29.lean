/-
  Chapter 12 as the program has it: who sees the young, Slot by Slot; Seen with one place more or less. Chapter 12 as lists: a slot stored, and what is seen then. Chapter 12 as the specification has it: Stored. Chapter 12 as the program has it: a heap's copy; Stored.
-/
import Derived.Test.YtocidankimefpaaGreatDoorM26
import Derived.Test.YtocidankimefpaaGreatDoorM27
import Derived.ChangeKeysEq
import Derived.Laws.Rows
import Derived.Test.YtocidankimefpaaGreatDoorM23
namespace Go.Proofs.YtocidankimefpaaGreatDoor.hp
open Go.RowKit rows heads words walks region
set_option maxRecDepth 100000
set_option linter.unusedVariables false
set_option linter.unusedSimpArgs false
end Go.Proofs.YtocidankimefpaaGreatDoor.hp
namespace Go.Proofs.YtocidankimefpaaGreatDoor.hp
open Go.RowKit rows heads words walks
set_option maxRecDepth 100000
set_option linter.unusedVariables false
def stoH (H:Hp) (p k x:Int):Hp:= { H with row:=H.row.set (p.toNat+1+k.toNat) x }
theorem set_get (xs:List Int) (q:Nat) (y:Int) (k:Nat):(xs.set q y).getD k 0=if k=q∧q<xs.length then y else xs.getD k 0:=by
 rw[List.getD_eq_getElem?_getD,List.getElem?_set]
 by_cases h:q=k
 ·subst h
  by_cases h2:q<xs.length
  ·simp[h2]
  ·rw[if_pos rfl,if_neg h2,if_neg (by simp[h2]),List.getD_eq_getElem?_getD,List.getElem?_eq_none (by omega)]
 ·rw[if_neg h,if_neg (fun e=>h e.1.symm),←List.getD_eq_getElem?_getD]
theorem slots_lenI {H:Hp} {j:Nat} (hc:chunk H.row j≠0):((slotsOf H (j:Int)).length:Int)=cnS (H.row.getD j 0):=by
 obtain⟨q1,q2⟩:=chunk_slots hc
 unfold slotsOf
 rw[Int.toNat_natCast,List.length_take,List.length_drop]
 omega
structure Sto (H:Hp) (ps:List Int) (p k:Int) (j m:Nat):Prop where
 ep:p=j
 ek:k=m
 lt:j+1+m<H.row.length
 mem:(j:Int) ∈ ps
 obj:(j:Int) ∈ objL H ps
 n6:uF (H.row.getD j 0)≠6
 n7:uF (H.row.getD j 0)≠7
 slot:m<(slotsOf H (j:Int)).length
 chk:chunk H.row j≠0
theorem Sto.row {H:Hp} {ps:List Int} {p k:Int} {j m:Nat} (S:Sto H ps p k j m) (x:Int):(stoH H p k x).row=H.row.set (j+1+m) x:=by
 show H.row.set _ _=_
 rw[S.ep,S.ek,Int.toNat_natCast,Int.toNat_natCast]
theorem Sto.dif {H:Hp} {ps:List Int} {p k:Int} {j m:Nat} (S:Sto H ps p k j m) (x:Int):Dif H [(j:Int)] (stoH H p k x).row:=by
 rw[S.row x]
 refine⟨List.length_set .., fun q hq => ?_⟩
 rw[set_get,if_neg]
 rintro⟨rfl,_⟩
 unfold cov covP at hq
 rw[List.any_eq_false]at hq
 refine hq (j:Int) (List.mem_singleton.2 rfl) ?_
 simp only[Bool.and_eq_true,decide_eq_true_eq,Int.toNat_natCast,ntH,Bool.not_eq_true',beq_eq_false_iff_ne]
 exact⟨⟨S.n7,by omega⟩,by have:=S.slot;omega⟩
theorem Sto.places {H:Hp} {ps:List Int} (R:Rt H ps) {p k:Int} {j m:Nat} (S:Sto H ps p k j m) (x:Int):placesR (stoH H p k x)=some ps∧upW (stoH H p k x)=upW H∧Nums (stoH H p k x)∧numB (stoH H p k x)=true:=
 sim_places R.some' (os:=[(j:Int)]) (fun q hq=>by rw[List.mem_singleton.1 hq];exact S.obj) (S.dif x) rfl rfl rfl rfl rfl rfl rfl
theorem Sto.other {H:Hp} {ps:List Int} (R:Rt H ps) {p k:Int} {j m:Nat} (S:Sto H ps p k j m) (x:Int) {i:Nat} (hi:(i:Int) ∈ ps) (hne:i≠j):slotsOf (stoH H p k x) (i:Int)=slotsOf H (i:Int):=by
 have hA:=apart_of R.some'
 have hS:=sim_of hA (os:=[(j:Int)]) (fun q hq=>by rw[List.mem_singleton.1 hq];exact S.obj) (S.dif x) (H':=stoH H p k x)
 obtain⟨_,e,_,hc⟩:=R.plc _ hi
 obtain rfl:=Int.ofNat_inj.1 e
 have hs:=slots_end S.chk S.n6
 have hsl:=S.slot
 unfold slotsOf
 rw[Int.toNat_natCast,hS.head i hi,S.row x]
 obtain⟨q1,q2⟩:=chunk_slots hc
 have hcl:i+1+(cnS (H.row.getD i 0)).toNat≤j+1+m∨j+1+m<i+1:=by
  by_cases h6:uF (H.row.getD i 0)=6
  ·have e0:cnS (H.row.getD i 0)=0:=by unfold cnS;rw[if_neg (by omega),if_pos h6]
   rw[e0]
   by_cases hl:i<j
   ·left;simp;omega
   ·right
    have:=hA.two S.mem hi (by omega)
    omega
  ·have se:=slots_end hc h6
   have sl:=slots_lenI hc
   by_cases hl:i<j
   ·have:=hA.two hi S.mem hl
    left;omega
   ·have:=hA.two S.mem hi (by omega)
    right;omega
 rcases hcl with h|h
 ·rw[List.drop_set,if_neg (by omega),List.take_set_of_le (by omega)]
 ·rw[List.drop_set,if_pos (by omega)]
theorem Sto.own {H:Hp} {ps:List Int} (R:Rt H ps) {p k:Int} {j m:Nat} (S:Sto H ps p k j m) (x:Int):slotsOf (stoH H p k x) (j:Int)=(slotsOf H (j:Int)).set m x:=by
 have hA:=apart_of R.some'
 have hS:=sim_of hA (os:=[(j:Int)]) (fun q hq=>by rw[List.mem_singleton.1 hq];exact S.obj) (S.dif x) (H':=stoH H p k x)
 unfold slotsOf
 rw[Int.toNat_natCast,hS.head j S.mem,S.row x,List.drop_set,if_neg (by omega),show j+1+m-(j+1)=m by omega,List.take_set]
theorem young_sto (H:Hp) (p k x:Int):youngB (stoH H p k x)=youngB H:=rfl
def stoSee (H:Hp) (p k x:Int):Bool:=((slotsOf H p).set k.toNat x).any (youngB H)
theorem filter_put (f:Int→Bool) (p:Int):∀u:List Int,Rising u→p ∈ u→u.filter (fun q=>q==p || f q)=putI p (u.filter f)
 | [],_,h=>by simp at h
 |q :: u,hr,h=>by
  have hr':=List.pairwise_cons.1 hr
  rcases List.mem_cons.1 h with rfl|h
  ·rw[List.filter_cons_of_pos (by simp)]
   have e:u.filter (fun q=>q==p || f q)=u.filter f:=by
    refine List.filter_congr (fun q hq => ?_)
    have:=hr'.1 q hq
    have:(q==p)=false:=by simpa using (by omega:q≠p)
    rw[this,Bool.false_or]
   rw[e]
   have hlt:∀q ∈ u.filter f,p<q:=fun q hq=>hr'.1 q (List.mem_filter.1 hq).1
   by_cases hf:f p=true
   ·rw[List.filter_cons_of_pos hf]
    unfold putI
    simp
   ·rw[List.filter_cons_of_neg hf]
    cases hu:u.filter f with
    |nil=>simp[putI]
    |cons a l=>
     have:=hlt a (by rw[hu];exact List.mem_cons_self ..)
     unfold putI
     rw[if_neg (by omega),if_neg (by omega)]
  ·have ih:=filter_put f p u hr'.2 h
   have hqp:=hr'.1 p h
   have hne:(q==p)=false:=by simpa using (by omega:q≠p)
   by_cases hf:f q=true
   ·rw[List.filter_cons_of_pos (by rw[hne,hf];rfl),List.filter_cons_of_pos hf,ih]
    conv=>rhs;unfold putI
    rw[if_pos hqp]
   ·rw[List.filter_cons_of_neg (by rw[hne,Bool.false_or];exact hf),List.filter_cons_of_neg hf,ih]
theorem up_mem {H:Hp} {ps:List Int} (R:Rt H ps) {u:List Int} (hu:upW H=some u) {j:Nat} (hj:(j:Int) ∈ ps):(j:Int) ∈ u↔2*H.half≤(j:Int):=by
 obtain⟨N,_,r,u',hr,hu',_,e⟩:=places_facts R.some'
 rw[hu]at hu'
 cases hu'
 have hl:=N.len
 have h3:=N.room
 have hh:=N.half
 have m1:∀p ∈ r,p<2*(hf H:Int):=fun p hp=>by
  obtain⟨j,e,_,b,_⟩:=walkO_mem (by omega) hr hp
  omega
 have m2:∀p ∈ u,2*(hf H:Int)≤p:=fun p hp=>by
  obtain⟨j,e,b,_,_⟩:=walkO_mem (by omega) hu hp
  omega
 constructor
 ·intro h;have:=m2 _ h;omega
 ·intro h
  rw[e]at hj
  rcases List.mem_append.1 hj with h1|h1
  ·have:=m1 _ h1;omega
  ·exact h1
theorem Sto.seen {H:Hp} {ps:List Int} (R:Rt H ps) {p k:Int} {j m:Nat} (S:Sto H ps p k j m) (x:Int):seenL (stoH H p k x)=if (decide (p<2*H.half) || !(stoSee H p k x))=true then (seenL H).filter (fun q => !(q==p)) else putI p (seenL H):=by
 obtain⟨_,hup,_,_⟩:=S.places R x
 obtain⟨N,_,r,u,hr,hu,_,e⟩:=places_facts R.some'
 have hsub:∀q ∈ u,q ∈ ps:=fun q hq=>by rw[e];exact List.mem_append.2 (.inr hq)
 have hru:Rising u:=walkO_rising hu
 have hse:stoSee H p k x=((slotsOf H (j:Int)).set m x).any (youngB H):=by unfold stoSee;rw[S.ep,S.ek,Int.toNat_natCast]
 have hf:∀q ∈ u,((slotsOf (stoH H p k x) q).any (youngB (stoH H p k x)))=if q=p then stoSee H p k x else (slotsOf H q).any (youngB H):=fun q hq=>by
  obtain⟨i,rfl,_,_⟩:=R.plc _ (hsub q hq)
  by_cases hij:i=j
  ·subst hij
   rw[if_pos S.ep.symm,S.own R x,young_sto,hse]
  ·rw[if_neg (by rw[S.ep];omega),S.other R x (hsub _ hq) hij,young_sto]
 have hL:seenL (stoH H p k x)=u.filter (fun q=>if q=p then stoSee H p k x else (slotsOf H q).any (youngB H)):=by
  unfold seenL
  rw[hup,hu,Option.getD_some]
  exact List.filter_congr hf
 have hL0:seenL H=u.filter (fun q=>(slotsOf H q).any (youngB H)):=by unfold seenL;rw[hu,Option.getD_some]
 rw[hL,hL0]
 by_cases hb:stoSee H p k x=true
 ·rw[hb]
  by_cases hp:p<2*H.half
  ·rw[if_pos (by simp[hp]),List.filter_filter]
   refine List.filter_congr (fun q hq => ?_)
   have hne:q≠p:=by
    rintro rfl
    have:=(up_mem R hu S.mem).1 (by rw[←S.ep];exact hq)
    rw[S.ep]at hp
    omega
   rw[if_neg hne]
   have:(q==p)=false:=by simpa using hne
   rw[this];simp
  ·rw[if_neg (by simp[hp]),←filter_put _ p u hru (by rw[S.ep];exact (up_mem R hu S.mem).2 (by rw[←S.ep];omega))]
   refine List.filter_congr (fun q hq => ?_)
   by_cases h:q=p
   ·rw[if_pos h];simp[h]
   ·rw[if_neg h]
    have:(q==p)=false:=by simpa using h
    rw[this,Bool.false_or]
 ·have hb':stoSee H p k x=false:=by simpa using hb
  rw[hb',if_pos (by simp),List.filter_filter]
  refine List.filter_congr (fun q hq => ?_)
  by_cases h:q=p
  ·rw[if_pos h];simp[h]
  ·rw[if_neg h]
   have:(q==p)=false:=by simpa using h
   rw[this];simp
end Go.Proofs.YtocidankimefpaaGreatDoor.hp
namespace Go.Proofs.YtocidankimefpaaGreatDoor.hp
open Go.RowKit rows heads words walks region
set_option maxRecDepth 100000
set_option linter.unusedVariables false
set_option linter.unusedSimpArgs false
structure CqS (w W:World) (H:Hp) (c2 c5 c6 c7:Value):Prop where
 n0:Nine W w.heap.size 26 (.int .i64 H.half) (.int .i64 H.old) c2 (.int .i64 H.side) (.int .i64 H.top) c5 c6 c7 (.int .i64 H.seed)
 n1:Nine W (w.heap.size+1) 26 (.int .i64 0) (.int .i64 0) (.slice none 0 0) (.int .i64 0) (.int .i64 0) (.slice none 0 0) (.slice none 0 0) (.slice none 0 0) (.int .i64 0)
 below:Below w.heap.size w W
 size:w.heap.size+2≤W.heap.size
theorem CqS.grow {w W W':World} {H:Hp} {c2 c5 c6 c7:Value} (h:CqS w W H c2 c5 c6 c7) (hb:Below W.heap.size W W'):CqS w W' H c2 c5 c6 c7:=⟨nine_below h.n0 hb,nine_below h.n1 hb,h.below.trans (hb.mono h.below.size),Nat.le_trans h.size hb.size⟩
theorem CqS.fields {w W:World} {H:Hp} {c2 c5 c6 c7:Value} (h:CqS w W H c2 c5 c6 c7) {W':World} {d2 d5 d6 d7:Value} (hc:Ch [w.heap.size] W W') (h2:Nine W' w.heap.size 26 (.int .i64 H.half) (.int .i64 H.old) d2 (.int .i64 H.side) (.int .i64 H.top) d5 d6 d7 (.int .i64 H.seed)):CqS w W' H d2 d5 d6 d7:=
 ⟨h2,nine_ch h.n1 hc (by simp),h.below.trans (below_ch hc h.below.size (fun k hk=>by simp at hk;omega)),Nat.le_trans h.size hc.size⟩
theorem hpX2 {w:World} {H:Hp} (vr vo vm vs:Value):CqS w ((w.alloc (hpb H vr vo vm vs)).alloc (hpb ⟨0,0,[],0,0,[],[],[],0⟩ (.slice none 0 0) (.slice none 0 0) (.slice none 0 0) (.slice none 0 0))) H vr vo vm vs:=by
 have B0:Below w.heap.size w (w.alloc (hpb H vr vo vm vs)):=(Below.refl _ _).alloc (Nat.le_refl _) _
 exact⟨heap_alloc2_old _ _ _,heap_alloc2_new _ _ _,B0.alloc B0.size _,by simp⟩
set_option maxHeartbeats 16000000 in
theorem copiedHeap_any {w:World} {vr vo vm vs:Value} {H:Hp} (h:HpAt w vr vo vm vs H) (hs:hpSize H≤1048576) :
    Calls Tryz.prog 21 #[hpv H vr vo vm vs] w fun e w'=>∃g1 g2 g3 g4,e = .returned (hpv H (.slice (some ⟨g1,0,none⟩) H.row.length H.row.length) (.slice (some ⟨g2,0,none⟩) H.roots.length H.roots.length) (.slice (some ⟨g3,0,none⟩) H.mourned.length H.mourned.length) (.slice (some ⟨g4,0,none⟩) H.seen.length H.seen.length))∧OwnH w' w.heap.size (.slice (some ⟨g1,0,none⟩) H.row.length H.row.length) (.slice (some ⟨g2,0,none⟩) H.roots.length H.roots.length) (.slice (some ⟨g3,0,none⟩) H.mourned.length H.mourned.length) (.slice (some ⟨g4,0,none⟩) H.seen.length H.seen.length) H∧Below w.heap.size w w':=by
 obtain⟨a1,c1,a2,c2,a3,c3,a4,c4,e1,e2,e3,e4⟩:=hpAt_slices h
 subst e1 e2 e3 e4
 have l1:H.row.length≤1048576:=by unfold hpSize at hs;omega
 have l2:H.roots.length≤1048576:=by unfold hpSize at hs;omega
 have l3:H.mourned.length≤1048576:=by unfold hpSize at hs;omega
 have l4:H.seen.length≤1048576:=by unfold hpSize at hs;omega
 have HH:Hid _:=h
 have HS0:Hid _:=hpX2 (w:=w) (H:=H) (.slice a1 H.row.length c1) (.slice a2 H.roots.length c2) (.slice a3 H.mourned.length c3) (.slice a4 H.seen.length c4)
 clear h hs
 go_enter Tryz.func21,Tryz.ntmps21
 go_upto_region 1 with fail
 generalize (w.alloc _).alloc _=W0 at *
 obtain⟨⟨z0,z1,z2,z3,z4⟩,⟨z5,z6,z7,z8⟩,zf⟩:=nine_cells HS0.out.n0
 have CP:=copied_any (intsAt_below HH.out.1 HS0.out.below) l1
 clear zf
 go_upto_region 2 with (go_at_call 49;refine CP.mono ?_;clear CP z0 z1 z2 z3 z4 z5 z6 z7 z8;rintro e w11 ⟨rfl,F1,b1⟩;have HF:Hid _:=F1;have HB:Hid _:=b1;obtain⟨⟨z0,z1,z2,z3,z4⟩,⟨z5,z6,z7,z8⟩,zf⟩:=nine_cells (HS0.out.grow b1).n0;have f2:=zf 2;clear F1 b1 zf)
 have hg1:w.heap.size+2≤W0.heap.size:=HS0.out.size
 have HS1:Hid (CqS w (w11.setCell ⟨w.heap.size,2,none⟩ (.slice (some ⟨W0.heap.size,0,none⟩) H.row.length H.row.length)) H (.slice (some ⟨W0.heap.size,0,none⟩) H.row.length H.row.length) (.slice a2 H.roots.length c2) (.slice a3 H.mourned.length c3) (.slice a4 H.seen.length c4)):=(HS0.out.grow HB.out).fields (one_ch _ _ _ _) (nine_set2 (HS0.out.grow HB.out).n0 _)
 have HO1:Hid (rows.Own (w11.setCell ⟨w.heap.size,2,none⟩ (.slice (some ⟨W0.heap.size,0,none⟩) H.row.length H.row.length)) (w.heap.size+2) (.slice (some ⟨W0.heap.size,0,none⟩) H.row.length H.row.length) H.row):=row_ch (S:=[w.heap.size]) (full_own HF.out hg1 (show H.row.length≤maxLen by unfold maxLen;omega)) (one_ch _ _ _ _) (fun j hj=>by obtain rfl:j=W0.heap.size:=(by simpa [blk,Value.ownBlock] using hj);simp;omega)
 clear HF HB z0 z1 z2 z3 z4 z5 z6 z7 z8 HS0 f2
 generalize w11.setCell ⟨w.heap.size,2,none⟩ (.slice (some ⟨W0.heap.size,0,none⟩) H.row.length H.row.length)=W1 at *
 generalize W0.heap.size=g1 at *
 have HO01:Hid _:=HO1.out
 obtain⟨⟨z0,z1,z2,z3,z4⟩,⟨z5,z6,z7,z8⟩,zf⟩:=nine_cells HS1.out.n0
 have CP:=copied_any (intsAt_below HH.out.2.1 HS1.out.below) l2
 clear zf
 go_upto_region 3 with (go_at_call 49;refine CP.mono ?_;clear CP z0 z1 z2 z3 z4 z5 z6 z7 z8;rintro e w12 ⟨rfl,F1,b1⟩;have HF:Hid _:=F1;have HB:Hid _:=b1;obtain⟨⟨z0,z1,z2,z3,z4⟩,⟨z5,z6,z7,z8⟩,zf⟩:=nine_cells (HS1.out.grow b1).n0;have f5:=zf 5;clear F1 b1 zf)
 have hg2:w.heap.size+2≤W1.heap.size:=HS1.out.size
 have HS2:Hid (CqS w (w12.setCell ⟨w.heap.size,5,none⟩ (.slice (some ⟨W1.heap.size,0,none⟩) H.roots.length H.roots.length)) H (.slice (some ⟨g1,0,none⟩) H.row.length H.row.length) (.slice (some ⟨W1.heap.size,0,none⟩) H.roots.length H.roots.length) (.slice a3 H.mourned.length c3) (.slice a4 H.seen.length c4)):=(HS1.out.grow HB.out).fields (one_ch _ _ _ _) (nine_set5 (HS1.out.grow HB.out).n0 _)
 have HO2:Hid (rows.Own (w12.setCell ⟨w.heap.size,5,none⟩ (.slice (some ⟨W1.heap.size,0,none⟩) H.roots.length H.roots.length)) (w.heap.size+2) (.slice (some ⟨W1.heap.size,0,none⟩) H.roots.length H.roots.length) H.roots):=row_ch (S:=[w.heap.size]) (full_own HF.out hg2 (show H.roots.length≤maxLen by unfold maxLen;omega)) (one_ch _ _ _ _) (fun j hj=>by obtain rfl:j=W1.heap.size:=(by simpa [blk,Value.ownBlock] using hj);simp;omega)
 have HO1:Hid (rows.Own (w12.setCell ⟨w.heap.size,5,none⟩ (.slice (some ⟨W1.heap.size,0,none⟩) H.roots.length H.roots.length)) (w.heap.size+2) (.slice (some ⟨g1,0,none⟩) H.row.length H.row.length) H.row):=row_ch (S:=[w.heap.size]) (own_below HO1.out HB.out) (one_ch _ _ _ _) (fun j hj=>by have:=(blk_lt HO1.out j hj).1;simp;omega)
 have HD12:Hid (g1<W1.heap.size):=(blk_lt HO01.out g1 (List.mem_singleton.2 rfl)).2
 clear HF HB z0 z1 z2 z3 z4 z5 z6 z7 z8 HS1 f5
 generalize w12.setCell ⟨w.heap.size,5,none⟩ (.slice (some ⟨W1.heap.size,0,none⟩) H.roots.length H.roots.length)=W2 at *
 generalize W1.heap.size=g2 at *
 have HO01:Hid _:=HO1.out
 have HO02:Hid _:=HO2.out
 obtain⟨⟨z0,z1,z2,z3,z4⟩,⟨z5,z6,z7,z8⟩,zf⟩:=nine_cells HS2.out.n0
 have CP:=copied_any (intsAt_below HH.out.2.2.1 HS2.out.below) l3
 clear zf
 go_upto_region 4 with (go_at_call 49;refine CP.mono ?_;clear CP z0 z1 z2 z3 z4 z5 z6 z7 z8;rintro e w13 ⟨rfl,F1,b1⟩;have HF:Hid _:=F1;have HB:Hid _:=b1;obtain⟨⟨z0,z1,z2,z3,z4⟩,⟨z5,z6,z7,z8⟩,zf⟩:=nine_cells (HS2.out.grow b1).n0;have f6:=zf 6;clear F1 b1 zf)
 have hg3:w.heap.size+2≤W2.heap.size:=HS2.out.size
 have HS3:Hid (CqS w (w13.setCell ⟨w.heap.size,6,none⟩ (.slice (some ⟨W2.heap.size,0,none⟩) H.mourned.length H.mourned.length)) H (.slice (some ⟨g1,0,none⟩) H.row.length H.row.length) (.slice (some ⟨g2,0,none⟩) H.roots.length H.roots.length) (.slice (some ⟨W2.heap.size,0,none⟩) H.mourned.length H.mourned.length) (.slice a4 H.seen.length c4)):=(HS2.out.grow HB.out).fields (one_ch _ _ _ _) (nine_set6 (HS2.out.grow HB.out).n0 _)
 have HO3:Hid (rows.Own (w13.setCell ⟨w.heap.size,6,none⟩ (.slice (some ⟨W2.heap.size,0,none⟩) H.mourned.length H.mourned.length)) (w.heap.size+2) (.slice (some ⟨W2.heap.size,0,none⟩) H.mourned.length H.mourned.length) H.mourned):=row_ch (S:=[w.heap.size]) (full_own HF.out hg3 (show H.mourned.length≤maxLen by unfold maxLen;omega)) (one_ch _ _ _ _) (fun j hj=>by obtain rfl:j=W2.heap.size:=(by simpa [blk,Value.ownBlock] using hj);simp;omega)
 have HO1:Hid (rows.Own (w13.setCell ⟨w.heap.size,6,none⟩ (.slice (some ⟨W2.heap.size,0,none⟩) H.mourned.length H.mourned.length)) (w.heap.size+2) (.slice (some ⟨g1,0,none⟩) H.row.length H.row.length) H.row):=row_ch (S:=[w.heap.size]) (own_below HO1.out HB.out) (one_ch _ _ _ _) (fun j hj=>by have:=(blk_lt HO1.out j hj).1;simp;omega)
 have HD13:Hid (g1<W2.heap.size):=(blk_lt HO01.out g1 (List.mem_singleton.2 rfl)).2
 have HO2:Hid (rows.Own (w13.setCell ⟨w.heap.size,6,none⟩ (.slice (some ⟨W2.heap.size,0,none⟩) H.mourned.length H.mourned.length)) (w.heap.size+2) (.slice (some ⟨g2,0,none⟩) H.roots.length H.roots.length) H.roots):=row_ch (S:=[w.heap.size]) (own_below HO2.out HB.out) (one_ch _ _ _ _) (fun j hj=>by have:=(blk_lt HO2.out j hj).1;simp;omega)
 have HD23:Hid (g2<W2.heap.size):=(blk_lt HO02.out g2 (List.mem_singleton.2 rfl)).2
 clear HF HB z0 z1 z2 z3 z4 z5 z6 z7 z8 HS2 f6
 generalize w13.setCell ⟨w.heap.size,6,none⟩ (.slice (some ⟨W2.heap.size,0,none⟩) H.mourned.length H.mourned.length)=W3 at *
 generalize W2.heap.size=g3 at *
 have HO01:Hid _:=HO1.out
 have HO02:Hid _:=HO2.out
 have HO03:Hid _:=HO3.out
 obtain⟨⟨z0,z1,z2,z3,z4⟩,⟨z5,z6,z7,z8⟩,zf⟩:=nine_cells HS3.out.n0
 have CP:=copied_any (intsAt_below HH.out.2.2.2 HS3.out.below) l4
 clear zf
 go_upto_region 5 with (go_at_call 49;refine CP.mono ?_;clear CP z0 z1 z2 z3 z4 z5 z6 z7 z8;rintro e w14 ⟨rfl,F1,b1⟩;have HF:Hid _:=F1;have HB:Hid _:=b1;obtain⟨⟨z0,z1,z2,z3,z4⟩,⟨z5,z6,z7,z8⟩,zf⟩:=nine_cells (HS3.out.grow b1).n0;have f7:=zf 7;clear F1 b1 zf)
 have hg4:w.heap.size+2≤W3.heap.size:=HS3.out.size
 have HS4:Hid (CqS w (w14.setCell ⟨w.heap.size,7,none⟩ (.slice (some ⟨W3.heap.size,0,none⟩) H.seen.length H.seen.length)) H (.slice (some ⟨g1,0,none⟩) H.row.length H.row.length) (.slice (some ⟨g2,0,none⟩) H.roots.length H.roots.length) (.slice (some ⟨g3,0,none⟩) H.mourned.length H.mourned.length) (.slice (some ⟨W3.heap.size,0,none⟩) H.seen.length H.seen.length)):=(HS3.out.grow HB.out).fields (one_ch _ _ _ _) (nine_set7 (HS3.out.grow HB.out).n0 _)
 have HO4:Hid (rows.Own (w14.setCell ⟨w.heap.size,7,none⟩ (.slice (some ⟨W3.heap.size,0,none⟩) H.seen.length H.seen.length)) (w.heap.size+2) (.slice (some ⟨W3.heap.size,0,none⟩) H.seen.length H.seen.length) H.seen):=row_ch (S:=[w.heap.size]) (full_own HF.out hg4 (show H.seen.length≤maxLen by unfold maxLen;omega)) (one_ch _ _ _ _) (fun j hj=>by obtain rfl:j=W3.heap.size:=(by simpa [blk,Value.ownBlock] using hj);simp;omega)
 have HO1:Hid (rows.Own (w14.setCell ⟨w.heap.size,7,none⟩ (.slice (some ⟨W3.heap.size,0,none⟩) H.seen.length H.seen.length)) (w.heap.size+2) (.slice (some ⟨g1,0,none⟩) H.row.length H.row.length) H.row):=row_ch (S:=[w.heap.size]) (own_below HO1.out HB.out) (one_ch _ _ _ _) (fun j hj=>by have:=(blk_lt HO1.out j hj).1;simp;omega)
 have HD14:Hid (g1<W3.heap.size):=(blk_lt HO01.out g1 (List.mem_singleton.2 rfl)).2
 have HO2:Hid (rows.Own (w14.setCell ⟨w.heap.size,7,none⟩ (.slice (some ⟨W3.heap.size,0,none⟩) H.seen.length H.seen.length)) (w.heap.size+2) (.slice (some ⟨g2,0,none⟩) H.roots.length H.roots.length) H.roots):=row_ch (S:=[w.heap.size]) (own_below HO2.out HB.out) (one_ch _ _ _ _) (fun j hj=>by have:=(blk_lt HO2.out j hj).1;simp;omega)
 have HD24:Hid (g2<W3.heap.size):=(blk_lt HO02.out g2 (List.mem_singleton.2 rfl)).2
 have HO3:Hid (rows.Own (w14.setCell ⟨w.heap.size,7,none⟩ (.slice (some ⟨W3.heap.size,0,none⟩) H.seen.length H.seen.length)) (w.heap.size+2) (.slice (some ⟨g3,0,none⟩) H.mourned.length H.mourned.length) H.mourned):=row_ch (S:=[w.heap.size]) (own_below HO3.out HB.out) (one_ch _ _ _ _) (fun j hj=>by have:=(blk_lt HO3.out j hj).1;simp;omega)
 have HD34:Hid (g3<W3.heap.size):=(blk_lt HO03.out g3 (List.mem_singleton.2 rfl)).2
 clear HF HB z0 z1 z2 z3 z4 z5 z6 z7 z8 HS3 f7
 generalize w14.setCell ⟨w.heap.size,7,none⟩ (.slice (some ⟨W3.heap.size,0,none⟩) H.seen.length H.seen.length)=W4 at *
 generalize W3.heap.size=g4 at *
 have HO01:Hid _:=HO1.out
 have HO02:Hid _:=HO2.out
 have HO03:Hid _:=HO3.out
 have HO04:Hid _:=HO4.out
 obtain⟨⟨z0,z1,z2,z3,z4⟩,⟨z5,z6,z7,z8⟩,_⟩:=nine_cells HS4.out.n0
 obtain⟨⟨y0,y1,y2,y3,y4⟩,⟨y5,y6,y7,y8⟩,yf⟩:=nine_cells HS4.out.n1
 have f0:=yf 0
 have f1:=yf 1
 have f2:=yf 2
 have f3:=yf 3
 have f4:=yf 4
 have f5:=yf 5
 have f6:=yf 6
 have f7:=yf 7
 have f8:=yf 8
 clear yf
 have HB4:Hid _:=HS4.out.below
 have HN1:Hid _:=HS4.out.n1
 clear HS4
 go_wp2_with fail
 refine bodyPost_ret (res_heap rfl rfl (nine_sets HN1.out _ _ _ _ _ _ _ _ _)) rfl ⟨_,_,_,_,rfl,⟨⟨?_,?_,?_,?_⟩,?_⟩,nine_belows HB4.out (by omega) _ _ _ _ _ _ _ _ _⟩
 ·exact own_base (row_ch (S:=[w.heap.size+1]) HO1.out (nine_other _ _ _ _ _ _ _ _ _) (fun j hj=>by have:=(blk_lt HO1.out j hj).1;simp;omega)) (by omega)
 ·exact own_base (row_ch (S:=[w.heap.size+1]) HO2.out (nine_other _ _ _ _ _ _ _ _ _) (fun j hj=>by have:=(blk_lt HO2.out j hj).1;simp;omega)) (by omega)
 ·exact own_base (row_ch (S:=[w.heap.size+1]) HO3.out (nine_other _ _ _ _ _ _ _ _ _) (fun j hj=>by have:=(blk_lt HO3.out j hj).1;simp;omega)) (by omega)
 ·exact own_base (row_ch (S:=[w.heap.size+1]) HO4.out (nine_other _ _ _ _ _ _ _ _ _) (fun j hj=>by have:=(blk_lt HO4.out j hj).1;simp;omega)) (by omega)
 ·have q12:=HD12.out
  have q13:=HD13.out
  have q14:=HD14.out
  have q23:=HD23.out
  have q24:=HD24.out
  have q34:=HD34.out
  simp[hblk,blk,Value.ownBlock]
  omega
end Go.Proofs.YtocidankimefpaaGreatDoor.hp
