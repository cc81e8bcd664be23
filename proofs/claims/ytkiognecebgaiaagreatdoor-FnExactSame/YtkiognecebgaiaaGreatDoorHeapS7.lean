/-
  Chapter 9 as the specification has it: what must be seen, and which heaps are right.
  Made from the template HeapS7.
-/
import Derived.Test.YtkiognecebgaiaaGreatDoorHeapS6
import Derived.Test.YtkiognecebgaiaaGreatDoorHeapP
import Derived.Lib.Hide
namespace Go.Proofs.YtkiognecebgaiaaGreatDoor.hp
open Go.RowKit rows heads words walks region
set_option maxRecDepth 100000
set_option linter.unusedVariables false
set_option linter.unusedSimpArgs false
set_option maxHeartbeats 1000000 in
theorem l1Same_any {w:World} {v1 v2:Value} {xs ys:List Int} (h1:IntsAt w v1 xs) (h2:IntsAt w v2 ys) (hl:xs.length≤1048576) :
    Calls Tryz.prog 95 #[v1,v2] w fun e w'=>e = .returned (.bool (decide (xs=ys)))∧∃n,w'=w.drewN n:=by
 obtain⟨a,cap,rfl,hlc,hcm,_,hc⟩:=h1
 obtain⟨a',cap',rfl,hlc',hcm',_,hc'⟩:=h2
 by_cases hn:xs.length=ys.length
 ·have HC:Hid (0<xs.length→∃b off,a=some ⟨b,off,none⟩∧b<w.heap.size∧∀i,i<xs.length→w.cell? ⟨b,off+i,none⟩=some (.int .i64 (xs.getD i 0))):=hc
  have HC':Hid (0<ys.length→∃b off,a'=some ⟨b,off,none⟩∧b<w.heap.size∧∀i,i<ys.length→w.cell? ⟨b,off+i,none⟩=some (.int .i64 (ys.getD i 0))):=hc'
  clear hc hc'
  have hni:(xs.length:Int)=(ys.length:Int):=by omega
  go_enter Tryz.func95,Tryz.ntmps95
  go_wp2_with fail
  go_loopw [5] (fun i wr=>∃k n:Nat,k≤xs.length∧i = .int .i64 k∧xs.take k=ys.take k∧wr=w.drewN n) (fun i _=>xs.length-(intOf i).toNat)
  case atStart=>exact⟨0,0,Nat.zero_le _,rfl,by simp,rfl⟩
  case round=>
   obtain⟨k,n,hk,rfl,ht,rfl⟩:=hrel
   by_cases hlt:k<xs.length
   ·obtain⟨b,off,rfl,hb,hc⟩:=HC.out (by omega)
    obtain⟨b',off',rfl,hb',hc'⟩:=HC'.out (by omega)
    have c0:=hc k hlt
    have c1:=hc' k (by omega)
    have HT:Hid (xs.getD k 0=ys.getD k 0→xs.take (k+1)=ys.take (k+1)):=fun e=>take_succ_eq ht hlt (by omega) e
    have HN:Hid (¬xs.getD k 0=ys.getD k 0→decide (xs=ys)=false):=fun e=>by simp only[decide_eq_false_iff_not];intro e';subst e';exact e rfl
    clear hc hc' ht HC HC'
    have hlt':k<ys.length:=by omega
    generalize xs.getD k 0=x at *
    generalize ys.getD k 0=y at *
    by_cases hxy:x=y
    ·go_wp2
     go_quiet (fail)
     go_wp2
     exact⟨⟨k+1,n+nq,by omega,by go_num,HT hxy,rfl⟩,by simp[intOf];omega⟩
    ·go_wp2
     go_quiet (fail)
     go_wp2
     go_ret
     exact⟨by rw[HN hxy];rfl,n+nq,by rw[World.drewN_drewN]⟩
   ·have e:xs=ys:=by
      have e1:xs.take k=xs:=List.take_of_length_le (by omega)
      have e2:ys.take k=ys:=List.take_of_length_le (by omega)
      rw[←e1,ht,e2]
    have HE:Hid (decide (xs=ys)=true):=by show _=true;simpa using e
    clear ht e HC HC'
    go_wp2
    go_ret
    exact⟨by rw[HE.out];rfl,_,rfl⟩
 ·have hni:¬(xs.length:Int)=(ys.length:Int):=by omega
  clear hc hc'
  go_enter Tryz.func95,Tryz.ntmps95
  go_wp2
  go_ret
  exact⟨by rw[decide_eq_false (fun e=>hn (by rw[e]))];rfl,0,rfl⟩
theorem walkL_rising (xs:List Int) (t:Nat):∀(n k:Nat) (l:List Int),walkL xs t n k=some l→Rising l∧∀x ∈ l,(k:Int)≤x:=by
 intro n
 induction n with
 |zero=>
  intro k l h
  unfold walkL at h
  split at h
  ·cases h
  ·cases h;exact⟨List.Pairwise.nil,fun x hx=>by cases hx⟩
 |succ n ih=>
  intro k l h
  by_cases h1:k<t
  ·by_cases hb:chunk xs k=0∨(k:Int)+chunk xs k > t
   ·rw[walkL_bad _ _ _ _ h1 hb]at h;cases h
   ·have:=chunk_bounds xs k
    rw[walkL_step _ _ _ _ h1 hb]at h
    obtain⟨l',hl',rfl⟩:=Option.map_eq_some_iff.1 h
    obtain⟨i1,i2⟩:=ih _ _ hl'
    refine⟨List.pairwise_cons.2 ⟨fun a ha => ?_,i1⟩,fun x hx => ?_⟩
    ·have:=i2 a ha;omega
    ·rcases List.mem_cons.1 hx with rfl|hx
     ·omega
     ·have:=i2 x hx;omega
  ·rw[walkL_end _ _ _ _ h1]at h
   cases h;exact⟨List.Pairwise.nil,fun x hx=>by cases hx⟩
theorem walkO_rising {xs:List Int} {f t:Nat} {l:List Int} (h:walkO xs f t=some l):Rising l:=(walkL_rising xs t _ _ _ h).1
theorem rising_take {l:List Int} (h:Rising l) {k:Nat} (hk:k<l.length):∀x ∈ l.take k,x<l.getD k 0:=by
 intro x hx
 obtain⟨i,hi,rfl⟩:=List.getElem_of_mem hx
 rw[List.length_take]at hi
 rw[List.getElem_take,List.getD_eq_getElem?_getD,List.getElem?_eq_getElem hk]
 exact List.pairwise_iff_getElem.1 h i k (by omega) hk (by omega)
theorem putI_last:∀ {xs:List Int} {n:Int},(∀x ∈ xs,x<n)→putI n xs=xs++[n]
 | [],n,_=>rfl
 |x :: xs,n,h=>by
  have h1:=h x (by simp)
  unfold putI
  rw[if_pos h1,putI_last (fun y hy=>h y (by simp[hy]))]
  rfl
theorem putI_there:∀ {xs:List Int} {n:Int},(∀x ∈ xs,x<n)→putI n (xs++[n])=xs++[n]
 | [],n,_=>by simp[putI]
 |x :: xs,n,h=>by
  have h1:=h x (by simp)
  show putI n (x :: (xs++[n]))=_
  unfold putI
  rw[if_pos h1,putI_there (fun y hy=>h y (by simp[hy]))]
  rfl
def seesY (H:Hp) (p:Int):Bool:=(slotsOf H p).any (youngB H)
theorem seenL_eq (H:Hp):seenL H=((upW H).getD []).filter (seesY H):=rfl
def seenAt (H:Hp) (u:List Int) (k i:Nat):List Int:=(u.take k).filter (seesY H)++(if ((slotsOf H (u.getD k 0)).take i).any (youngB H)=true then [u.getD k 0] else [])
theorem seenAt_zero (H:Hp) (u:List Int) (k:Nat):seenAt H u k 0=(u.take k).filter (seesY H):=by simp[seenAt]
theorem seenAt_end {H:Hp} {u:List Int} {k i:Nat} (hk:k<u.length) (hi:(slotsOf H (u.getD k 0)).length≤i):seenAt H u k i=(u.take (k+1)).filter (seesY H):=by
 unfold seenAt
 rw[List.take_of_length_le hi]
 have:(u.take (k+1)).filter (seesY H)=(u.take k).filter (seesY H)++(if seesY H (u.getD k 0)=true then [u.getD k 0] else []):=by
  rw[List.take_add_one,List.filter_append,List.getElem?_eq_getElem hk,List.getD_eq_getElem?_getD,List.getElem?_eq_getElem hk]
  simp only[Option.toList_some,Option.getD_some]
  congr 1
  cases h:seesY H u[k]<;>simp[h]
 rw[this]
 rfl
theorem any_next {xs:List Int} {f:Int→Bool} {i:Nat} (hi:i<xs.length):(xs.take (i+1)).any f=((xs.take i).any f || f (xs.getD i 0)):=by
 rw[List.take_add_one,List.any_append,List.getElem?_eq_getElem hi,List.getD_eq_getElem?_getD,List.getElem?_eq_getElem hi]
 simp
theorem seenAt_no {H:Hp} {u:List Int} {k i:Nat} (hi:i<(slotsOf H (u.getD k 0)).length) (h:youngB H ((slotsOf H (u.getD k 0)).getD i 0)=false):seenAt H u k (i+1)=seenAt H u k i:=by
 unfold seenAt
 rw[any_next hi,h,Bool.or_false]
theorem seenAt_yes {H:Hp} {u:List Int} (hr:Rising u) {k i:Nat} (hk:k<u.length) (hi:i<(slotsOf H (u.getD k 0)).length) (h:youngB H ((slotsOf H (u.getD k 0)).getD i 0)=true):putI (u.getD k 0) (seenAt H u k i)=seenAt H u k (i+1):=by
 have hlt:∀x ∈ (u.take k).filter (seesY H),x<u.getD k 0:=fun x hx=>rising_take hr hk x (List.mem_filter.1 hx).1
 unfold seenAt
 rw[any_next hi,h,Bool.or_true,if_pos rfl]
 split
 ·exact putI_there hlt
 ·rw[List.append_nil];exact putI_last hlt
theorem seenAt_len {H:Hp} {u:List Int} {k i:Nat}:(seenAt H u k i).length≤u.length+1:=by
 unfold seenAt
 have:=List.length_filter_le (seesY H) (u.take k)
 rw[List.length_take]at this
 rw[List.length_append]
 split<;>simp<;>omega
set_option maxHeartbeats 16000000 in
theorem l9Seen_any {w:World} {vr vo vm vs:Value} {H:Hp} (h:HpAt w vr vo vm vs H) (N:Nums H) {u:List Int} (hu:upW H=some u) :
    Calls Tryz.prog 96 #[hpv H vr vo vm vs] w fun e w'=>∃v',e = .returned v'∧rows.Own w' w.heap.size v' (seenL H)∧Below w.heap.size w w':=by
 obtain⟨R,hR⟩:∃R,seenL H=R:=⟨_,rfl⟩
 rw[hR]
 have hR':u.filter (seesY H)=R:=by rw[←hR,seenL_eq,hu];rfl
 have HRV:Hid _:=hR'
 clear hR hR'
 have hl:=N.len
 have n1:=N.half1
 have n2:=N.old1
 have HRis:Hid (Rising u):=walkO_rising hu
 have HPC:Hid (∀p ∈ u,∃j:Nat,p=j∧j<H.row.length∧chunk H.row j≠0):=fun p hp=>by
  obtain⟨j,e,_,a,b⟩:=walkO_mem (by omega) hu hp
  exact⟨j,e,by omega,b⟩
 have hul:=(walkO_len (by omega) hu).1
 have hul':u.length≤1000:=by omega
 obtain⟨a1,c1,a2,c2,a3,c3,a4,c4,e1,e2,e3,e4⟩:=hpAt_slices h
 subst e1 e2 e3 e4
 have B0:Below w.heap.size w ((w.alloc (hpb H (.slice a1 H.row.length c1) (.slice a2 H.roots.length c2) (.slice a3 H.mourned.length c3) (.slice a4 H.seen.length c4))).alloc (.cells #[] 2)):=((Below.refl _ _).alloc (Nat.le_refl _) _).alloc (by simp) _
 have HO0:Hid (rows.Own ((w.alloc (hpb H (.slice a1 H.row.length c1) (.slice a2 H.roots.length c2) (.slice a3 H.mourned.length c3) (.slice a4 H.seen.length c4))).alloc (.cells #[] 2)) w.heap.size (.slice (some ⟨w.heap.size+1,0,none⟩) 0 0) []):=own_nothing2 (by simp) (by omega)
 have T0:HpBlk ((w.alloc (hpb H (.slice a1 H.row.length c1) (.slice a2 H.roots.length c2) (.slice a3 H.mourned.length c3) (.slice a4 H.seen.length c4))).alloc (.cells #[] 2)) w.heap.size H (.slice a1 H.row.length c1) (.slice a2 H.roots.length c2) (.slice a3 H.mourned.length c3) (.slice a4 H.seen.length c4):=nine_below (nine_new w H _ _ _ _) ((Below.refl _ _).alloc (Nat.le_refl _) _)
 obtain⟨⟨z0,z1,z2,z3,z4⟩,⟨z5,z6,z7,z8⟩,_⟩:=nine_cells T0
 have HT0:Hid _:=T0
 have HB0:Hid _:=B0
 have HH0:Hid _:=hpAt_below h B0
 have eH:=N.half
 have eO:=N.old
 rw[eH]at z0
 rw[eO]at z1
 have WK:=l4Walk_any (hpAt_below h B0).1 (by omega) (2*hf H) (2*hf H+od H) (by omega)
 rw[show walkO H.row (2*hf H) (2*hf H+od H)=some u from hu]at WK
 have HHf:Hid (-1000≤H.half∧H.half≤1000):=⟨by omega,by omega⟩
 have rowl:H.row.length≤800:=by omega
 generalize hf H=F at *
 generalize od H=D at *
 obtain⟨M,hM⟩:∃M:Nat,2*F=M:=⟨_,rfl⟩
 obtain⟨T,hT⟩:∃T:Nat,M+D=T:=⟨_,rfl⟩
 have eM:2*(F:Int)=(M:Int):=by omega
 have eTT:(M:Int)+(D:Int)=(T:Int):=by omega
 rw[hM,hT]at WK
 have bF:F≤200:=n1.2.1
 have bD:D≤400:=n2.2.1
 have bM:M≤400:=by omega
 clear B0 T0 h N hu hl n1 n2 eH eO hM hT hul
 go_enter Tryz.func96,Tryz.ntmps96
 go_wp2_with fail
 generalize ((w.alloc (hpb H (.slice a1 H.row.length c1) (.slice a2 H.roots.length c2) (.slice a3 H.mourned.length c3) (.slice a4 H.seen.length c4))).alloc (.cells #[] 2))=X at *
 refine WK.mono ?_
 clear WK
 rintro e w1 ⟨vu,rfl,O1,b1⟩
 have HO1:Hid (rows.Own w1 X.heap.size vu u):=O1
 obtain⟨pa,pc,rfl,hp1,hp2,_,_⟩:=own_ints O1
 have HT1:Hid _:=nine_below HT0.out b1
 have HH1:Hid (HpAt w1 (.slice a1 H.row.length c1) (.slice a2 H.roots.length c2) (.slice a3 H.mourned.length c3) (.slice a4 H.seen.length c4) H):=hpAt_below HH0.out b1
 have HB1:Hid _:=HB0.out.trans (b1.mono HB0.out.size)
 have HE1:Hid _:=own_below HO0.out b1
 have hwlt:=lt_of_block HT1.out
 clear O1 b1 HT0 HH0 HB0 HO0 z0 z1 z2 z3 z4 z5 z6 z7 z8 eM eTT
 go_wp2_with fail
 go_loopw [3,6] (fun o p wr=>∃(k:Nat) (v:Value),v=o∧k≤u.length∧p = .int .i64 (k:Int)∧rows.Own wr w.heap.size v ((u.take k).filter (seesY H))∧Below w1.heap.size w1 wr) (fun _ p _=>u.length-(intOf p).toNat)
 case atStart=>exact⟨0,_,rfl,Nat.zero_le _,rfl,HE1.out,Below.refl _ _⟩
 case round=>
  obtain⟨k,v,rfl,hk,rfl,hO,hB⟩:=hrel
  clear HE1
  by_cases hlt:k<u.length
  ·have hlt':(k:Int)<(u.length:Int):=by omega
   have T5:=nine_below HT1.out hB
   have Row5:=intsAt_below HH1.out.1 hB
   have R5:=own_below HO1.out hB
   obtain⟨j,hj,hjl,hch⟩:=HPC.out (u.getD k 0) (by rw[List.getD_eq_getElem?_getD,List.getElem?_eq_getElem hlt];exact List.getElem_mem hlt)
   obtain⟨lb,lo,ev,hlb,x0⟩:=ints_cell (own_ints R5) hlt
   subst ev
   rw[hj]at x0
   have HJ:Hid _:=hj
   obtain⟨⟨z0,z1,z2,z3,z4⟩,⟨z5,z6,z7,z8⟩,_⟩:=nine_cells T5
   have hcs:=chunk_slots hch
   have HSL:Hid _:=slots_len (H:=H) hch
   obtain⟨cn,hcn⟩:∃cn:Nat,cnS (H.row.getD j 0)=(cn:Int):=⟨(cnS (H.row.getD j 0)).toNat,by omega⟩
   rw[hcn]at hcs HSL
   rw[Int.toNat_natCast]at HSL
   have HSG:Hid (∀i,i<cn→(slotsOf H (j:Int)).getD i 0=H.row.getD (j+1+i) 0):=fun i hi=>slots_getD (by rw[hcn,Int.toNat_natCast];exact hi)
   have HLC:Hid (∀W,Calls Tryz.prog 124 #[hv (uS (H.row.getD j 0)) (uF (H.row.getD j 0)) (uC (H.row.getD j 0)) (uH (H.row.getD j 0)) (uP (H.row.getD j 0)) (uM (H.row.getD j 0))] W fun e w'=>e = .returned (.int .i64 (cn:Int))∧Below W.heap.size W w'):=fun W=>(l4Count_any _ _ _ _ _ _ W).mono fun e w' ⟨he,hw⟩=>⟨by rw[he,←hcn];rfl,by rw[hw];exact (Below.refl _ _).alloc (Nat.le_refl _) _⟩
   have bcn:(j:Int)+1+cn≤H.row.length:=hcs.2
   have HOV:Hid _:=hO
   obtain⟨oa,on,oc,rfl⟩:=ints_slice (own_ints hO)
   clear hj hcs hcn hO
   have BA:=(Below.refl wr.heap.size wr).alloc (Nat.le_refl _) (hb 0 0 0 0 false false)
   have z2':=(BA.cell (p:=⟨w.heap.size,2,none⟩) (World.block_lt_of_cell? _ _ z2)).trans z2
   have x0':=(BA.cell (p:=⟨lb,lo+k,none⟩) hlb).trans x0
   have HL4:Hid (∀W,Below wr.heap.size wr W→Calls Tryz.prog 100 #[.slice a1 H.row.length c1,.int .i64 (j:Int)] W fun e w'=>e = .returned (hv (uS (H.row.getD j 0)) (uF (H.row.getD j 0)) (uC (H.row.getD j 0)) (uH (H.row.getD j 0)) (uP (H.row.getD j 0)) (uM (H.row.getD j 0)))∧Below W.heap.size W w'):=fun W hW=>l4Head_any (intsAt_below Row5 hW) j hjl
   have HA:Hid (∀W,Below (wr.alloc (hb 0 0 0 0 false false)).heap.size (wr.alloc (hb 0 0 0 0 false false)) W→HeadAt W wr.heap.size 0 0 0 0 false false):=fun W hW=>headAt_below (headAt_new wr 0 0 0 0 false false) hW
   have HBA:Hid _:=BA
   have HBz:Hid _:=hB
   clear T5 Row5 R5 hB BA
   generalize uF (H.row.getD j 0)=f at *
   generalize uS (H.row.getD j 0)=s at *
   generalize uC (H.row.getD j 0)=c at *
   generalize uH (H.row.getD j 0)=g at *
   generalize uP (H.row.getD j 0)=p at *
   generalize uM (H.row.getD j 0)=m at *
   go_upto_region 6 with fail
   go_cut [6,7] from 25 to 62 (fun i q wy=>i = .int .i64 (k:Int)∧∃B,q = .pointer (some ⟨B,0,none⟩)∧HeadAt wy B s f c g p m∧Below wr.heap.size wr wy)
   case first=>
    go_region_law (first
     |(go_simp;go_at_call 100;refine (HL4.out _ HBA.out.drew).mono ?_;clear HL4;rintro e w6 ⟨rfl,b6⟩;have b7:Below (wr.alloc (hb 0 0 0 0 false false)).heap.size (wr.alloc (hb 0 0 0 0 false false)) w6:=⟨b6.os,b6.tape,b6.output,b6.size,b6.block⟩;have TA:=HA.out w6 b7;obtain⟨t0',t1',t2',t3',t4',t5',tf⟩:=headAt_cells TA;have f0:=tf 0;have f1:=tf 1;have f2:=tf 2;have f3:=tf 3;have f4:=tf 4;have f5:=tf 5;have HEnd:Hid _:=And.intro (six_set TA s f c g p m) (six_below (HBA.out.trans (b7.mono HBA.out.size)) (Nat.le_refl wr.heap.size) s f c g p m);clear b6 b7 TA tf)
     |(go_simp;go_at_call 100;refine (HL4.out _ (Below.refl _ _).drew).mono ?_;clear HL4;rintro e w6 ⟨rfl,b6⟩;have b7:Below wr.heap.size wr w6:=⟨b6.os,b6.tape,b6.output,b6.size,b6.block⟩;have HEnd:Hid _:=And.intro (headAt_new w6 s f c g p m) (b7.alloc b7.size (hb s f c g p m));clear b6 b7))
    all_goals (go_wp2_with fail)
    all_goals go_meet
    all_goals exact⟨rfl,_,rfl,HEnd.out.1,HEnd.out.2⟩
   obtain⟨rfl,B,rfl,hHd,hBy⟩:=hcut
   have HHd:Hid _:=hHd
   have HB7:Hid (Below w1.heap.size w1 wc):=HBz.out.trans (hBy.mono HBz.out.size)
   have HO7:Hid (rows.Own wc w.heap.size (.slice oa on oc) (seenAt H u k 0)):=by show rows.Own _ _ _ _;rw[seenAt_zero];exact own_below HOV.out hBy
   clear z0 z1 z2 z3 z4 z5 z6 z7 z8 z2' x0 x0' HL4 HA HBA hHd hBy HBz HOV
   go_wp2_with fail
   go_loopw [3,8] (fun o q wr=>∃(i:Nat) (v:Value),v=o∧i≤cn∧q = .int .i64 (i:Int)∧rows.Own wr w.heap.size v (seenAt H u k i)∧Below wc.heap.size wc wr) (fun _ q _=>cn-(intOf q).toNat)
   case atStart=>exact⟨0,_,rfl,Nat.zero_le _,rfl,HO7.out,Below.refl _ _⟩
   case round=>
    obtain⟨i,v,rfl,hi,rfl,hO2,hB2⟩:=hrel
    clear HO7
    have T6:=headAt_below HHd.out hB2
    have HB8:Hid (Below w1.heap.size w1 wr):=HB7.out.trans (hB2.mono HB7.out.size)
    have HBwc:Hid _:=hB2
    obtain⟨t0',t1',t2',t3',t4',t5',_⟩:=headAt_cells T6
    have HOV:Hid _:=hO2
    obtain⟨oa',on',oc',rfl⟩:=ints_slice (own_ints hO2)
    clear T6 hB2 hO2
    by_cases hil:i<cn
    ·have hil':(i:Int)<(cn:Int):=by omega
     go_wp2_with fail
     refine (HLC.out _).mono ?_
     rintro e w4 ⟨rfl,b4⟩
     have B9:Below w1.heap.size w1 w4:=HB8.out.trans (b4.mono HB8.out.size)
     have B10:=b4
     have HOV4:Hid _:=own_below HOV.out b4
     clear t0' t1' t2' t3' t4' t5' b4 HOV
     have T7:=nine_below HT1.out B9
     have H7:=hpAt_below HH1.out B9
     have O7:=own_below HO1.out B9
     go_upto_region 10 with fail
     obtain⟨⟨z0,z1,z2,z3,z4⟩,⟨z5,z6,z7,z8⟩⟩:=nine_grow T7
     obtain⟨rb,ro,erb,hrb,y0⟩:=ints_cell H7.1 (k:=j+1+i) (by omega)
     obtain⟨lb',lo',elb,hlb',y1⟩:=ints_cell (own_ints O7) hlt
     have elb1:lb'=lb:=by injection elb with e;injection e with e1 e2;exact e1.symm
     have elb2:lo'=lo:=by injection elb with e;injection e with e1 e2;exact e2.symm
     subst elb1 elb2
     subst erb
     rw[HJ.out]at y1
     have Y0:=cell_grow y0
     have Y1:=cell_grow y1
     have HWD:Hid (∀x:Ext w4.heap.size w4,Calls Tryz.prog 128 #[hpv H (.slice (some ⟨rb,ro,none⟩) H.row.length c1) (.slice a2 H.roots.length c2) (.slice a3 H.mourned.length c3) (.slice a4 H.seen.length c4),.int .i64 (H.row.getD (j+1+i) 0)] x.to fun e w''=>e = .returned (.bool (youngB H (H.row.getD (j+1+i) 0)))∧∃y:Ext w4.heap.size w4,w''=y.to):=fun x=>calls_grow (Nat.le_refl _) (l9Young_any (hpAt_below H7 x.below) HHf.out _)
     have HB9:Hid _:=B9
     clear T7 H7 O7 y0 y1 B9
     obtain⟨wv,hwv⟩:∃wv,youngB H (H.row.getD (j+1+i) 0)=wv:=⟨_,rfl⟩
     rw[hwv]at HWD
     have HWV:Hid (youngB H ((slotsOf H (u.getD k 0)).getD i 0)=wv):=by show _=_;rw[HJ.out,HSG.out i hil];exact hwv
     clear hwv
     generalize H.row.getD (j+1+i) 0=yy at *
     have i1:((j:Int)+1+(i:Int)).toNat=j+1+i:=by omega
     have i2:(0:Int)≤(j:Int)+1+(i:Int):=by omega
     have i3:(j:Int)+1+(i:Int)<(H.row.length:Int):=by omega
     haveI:=ext_any w4
     refine region_grow (n:=w4.heap.size) (by kernel_rfl) (by kernel_rfl) ?_
     repeat (go_big_quiet_step ((go_at_call 128;exact HWD.out _)))
     refine wpQuiet_nil ?_
     intro _ hw'
     obtain⟨x,rfl⟩:=hw'
     have HBx:Hid (Below w1.heap.size w1 x.to):=HB9.out.trans (x.below.mono HB9.out.size)
     have HBy:Hid (Below wc.heap.size wc x.to):=(HBwc.out.trans (B10.mono HBwc.out.size)).trans (x.below.mono ((HBwc.out.trans (B10.mono HBwc.out.size)).size))
     have HOX:Hid _:=own_below HOV4.out x.below
     have y1:=Y1 x
     clear z0 z1 z2 z3 z4 z5 z6 z7 z8 Y0 Y1 HWD B10 HOV4
     generalize x.to=W at *
     clear x this
     cases wv with
     |false=>
      have HV:Hid (rows.Own W w.heap.size (.slice oa' on' oc') (seenAt H u k (i+1))):=by show rows.Own _ _ _ _;rw[seenAt_no (by rw[HJ.out,HSL.out];exact hil) HWV.out];exact HOX.out
      clear HOX HWV
      go_wp2
      exact⟨⟨i+1,_,rfl,by omega,by go_num,HV.out,HBy.out⟩,by simp[intOf];omega⟩
     |true=>
      have hbw:w.heap.size≤W.heap.size:=(HB1.out.trans (HBx.out.mono HB1.out.size)).size
      have PU:=l1Put_any HOX.out hbw (Nat.le_trans seenAt_len (by omega)) (u.getD k 0)
      rw[seenAt_yes HRis.out hlt (by rw[HJ.out,HSL.out];exact hil) HWV.out,HJ.out]at PU
      clear HOX HWV hbw
      go_wp2_with fail
      refine PU.mono ?_
      clear PU
      rintro e w5 ⟨v5,rfl,O5,b5⟩
      have HO5:Hid _:=O5
      have HB5:Hid (Below wc.heap.size wc w5):=HBy.out.trans (b5.mono HBy.out.size)
      obtain⟨a5,n5,c5,rfl⟩:=ints_slice (own_ints O5)
      clear O5 b5 y1
      go_wp2
      exact⟨⟨i+1,_,rfl,by omega,by go_num,HO5.out,HB5.out⟩,by simp[intOf];omega⟩
    ·have hil':¬(i:Int)<(cn:Int):=by omega
     go_wp2_with fail
     refine (HLC.out _).mono ?_
     rintro e w4 ⟨rfl,b4⟩
     have HB9:Hid (Below w1.heap.size w1 w4):=HB8.out.trans (b4.mono HB8.out.size)
     have HV:Hid (rows.Own w4 w.heap.size (.slice oa' on' oc') ((u.take (k+1)).filter (seesY H))):=by
      show rows.Own _ _ _ _
      rw[←seenAt_end (i:=i) hlt (by rw[HJ.out,HSL.out];omega)]
      exact own_below HOV.out b4
     clear t0' t1' t2' t3' t4' t5' b4 HOV
     go_wp2
     exact⟨⟨k+1,_,rfl,by omega,by go_num,HV.out,HB9.out⟩,by simp[intOf];omega⟩
  ·have hlt':¬(k:Int)<(u.length:Int):=by omega
   have HV:Hid (rows.Own wr w.heap.size v R):=by
    show rows.Own _ _ _ _
    rw[←HRV.out]
    have:=hO
    rwa [List.take_of_length_le (show u.length≤k by omega)]at this
   have HBE:Hid _:=HB1.out.trans (hB.mono HB1.out.size)
   obtain⟨oa,on,oc,rfl⟩:=ints_slice (own_ints hO)
   clear hO hB
   go_wp2
   go_ret
   exact⟨_,rfl,HV.out,HBE.out⟩
end Go.Proofs.YtkiognecebgaiaaGreatDoor.hp
