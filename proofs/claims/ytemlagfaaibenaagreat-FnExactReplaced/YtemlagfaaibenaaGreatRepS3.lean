/-
  Chapter 18 as the specification has it: l18Replace, Replaced.
  Made from the template RepS3 (mkreps3.py).
-/
import Derived.Test.YtemlagfaaibenaaGreatM23
import Derived.Test.YtemlagfaaibenaaGreatM2
namespace Go.Proofs.YtemlagfaaibenaaGreat.hp
open Go.RowKit rows heads words walks region
set_option maxRecDepth 100000
set_option linter.unusedVariables false
set_option linter.unusedSimpArgs false
theorem repC_two {H:Hp} {a b:Int} (h:twoC H a b≠0):repC H a b=twoC H a b:=by rw[twoC_rep,if_neg h]
theorem two_both {H:Hp} {a b:Int} (h:twoC H a b=0):(rootOk H a&&rootOk H b)=true∧rpX H a≠rpX H b:=by
 unfold twoC at h
 split at h
 ·rename_i h1
  split at h
  ·cases h
  ·rename_i h2
   exact⟨h1,h2⟩
 ·cases h
theorem ownH_note {W W':World} {base g k:Nat} {vo vm vs:Value} {H:Hp} {ys:List Int} (h:OwnH W base (.slice (some ⟨g,0,none⟩) H.row.length k) vo vm vs H) (ho:W'.ownsRow base 2 1 (.slice (some ⟨g,0,none⟩) H.row.length k) H.row.length (cellsOf ys)) (hl:ys.length=H.row.length) (hg:W.grownBy W' (some g)):OwnH W' base (.slice (some ⟨g,0,none⟩) H.row.length k) vo vm vs { H with row:=ys }:=by
 have hn:=h.2
 unfold hblk at hn
 rw[show blk (.slice (some ⟨g,0,none⟩) H.row.length k)=[g] from rfl]at hn
 simp only[List.cons_append,List.nil_append,List.nodup_cons,List.mem_append,not_or]at hn
 have C:Ch [g] W W':=⟨hg.os,hg.tape,hg.output,hg.size,fun k hk hne=>hg.block k hk (fun e=>by injection e with e;exact hne (by simp[e]))⟩
 refine⟨⟨?_,row_ch (S:=[g]) h.1.2.1 C (fun j hj=>by simp;rintro rfl;exact hn.1.1.1 hj),row_ch (S:=[g]) h.1.2.2.1 C (fun j hj=>by simp;rintro rfl;exact hn.1.1.2 hj),row_ch (S:=[g]) h.1.2.2.2 C (fun j hj=>by simp;rintro rfl;exact hn.1.2 hj)⟩,h.2⟩
 show World.ownsRow _ _ _ _ _ _ _
 rw[show ({ H with row:=ys }:Hp).row=ys from rfl,hl]
 exact ho
def dRn (k:Nat):Nat:=32+k
theorem dRn_inj:∀k,k<8→∀j,j<8→dRn j=dRn k→j=k:=fun k _ j _ e=>by unfold dRn at e;omega
def DRn (s:Nat):Bool:=decide (32≤s)&&decide (s≤40)
def FRn (P g1 n1 k1 j m zB:Nat) (xs:Int) (k:Nat) (t:Value) (_:World):Prop:=
 match k with
 |0=>t = .pointer (some ⟨P,0,none⟩)
 |1=>t = .pointer (some ⟨P,0,none⟩)
 |2=>t = .pointer (some ⟨P,2,none⟩)
 |3=>t = .slice (some ⟨g1,0,none⟩) n1 k1
 |4=>t = .int .i64 (j:Int)
 |5=>t = .pointer (some ⟨zB,0,none⟩)
 |6=>t = .int .i64 xs
 |7=>t = .int .i64 (m:Int)
 |_=>False
set_option maxHeartbeats 32000000 in
theorem l18Replace_any {w:World} {P base g1 k1:Nat} {vo vm vs:Value} {H:Hp} {ps:List Int} (R:Rt H ps) (dr:heapOk H=true) (N:Nine w P 27 (.int .i64 H.half) (.int .i64 H.old) (.slice (some ⟨g1,0,none⟩) H.row.length k1) (.int .i64 H.side) (.int .i64 H.top) vo vm vs (.int .i64 H.seed)) (O:OwnH w base (.slice (some ⟨g1,0,none⟩) H.row.length k1) vo vm vs H) (hP:P ∉ hblk (.slice (some ⟨g1,0,none⟩) H.row.length k1) vo vm vs) (hbs:base≤w.heap.size) (a b:Int) :
    Calls Tryz.prog 38 #[.pointer (some ⟨P,0,none⟩),.int .i64 a,.int .i64 b] w fun e w'=>(repC H a b≠0→e = .returned (.int .i64 (repC H a b))∧Below w.heap.size w w')∧(repC H a b=0→e = .returned (.int .i64 0)∧∃u,Nine w' P 27 (.int .i64 H.half) (.int .i64 H.old) (.slice (some ⟨g1,0,none⟩) H.row.length k1) (.int .i64 H.side) (.int .i64 H.top) vo vm u (.int .i64 H.seed)∧OwnH w' base (.slice (some ⟨g1,0,none⟩) H.row.length k1) vo vm u (repF H (rpX H a).toNat (4*rpX H b+4))∧Ch [P,g1] w w'):=by
 obtain⟨a1,c1,a2,c2,a3,c3,a4,c4,e1,e2,e3,e4⟩:=hpAt_slices (ownH_at O)
 subst e2 e3 e4
 clear e1
 have HALL:Hid (∀V,Below w.heap.size w V→Nine V P 27 (.int .i64 H.half) (.int .i64 H.old) (.slice (some ⟨g1,0,none⟩) H.row.length k1) (.int .i64 H.side) (.int .i64 H.top) (.slice a2 H.roots.length c2) (.slice a3 H.mourned.length c3) (.slice a4 H.seen.length c4) (.int .i64 H.seed)∧OwnH V base (.slice (some ⟨g1,0,none⟩) H.row.length k1) (.slice a2 H.roots.length c2) (.slice a3 H.mourned.length c3) (.slice a4 H.seen.length c4) H):=fun V hV=>⟨nine_below N hV,ownH_below O hV⟩
 have HPB:Hid _:=hP
 have HRR:Hid _:=R
 have TW:=l18Two_any (ownH_at O) dr R a b
 obtain⟨⟨z0,z1,z2,z3,z4⟩,⟨z5,z6,z7,z8⟩,_⟩:=nine_cells N
 clear N O hP R
 by_cases h2:twoC H a b=0
 case neg=>
  have hrc:=repC_two h2
  have h2':repC H a b≠0:=by rw[hrc];exact h2
  rw[if_neg h2,if_neg h2]at TW
  rw[hrc]at h2' ⊢
  generalize twoC H a b=C at *
  have hb:(C != 0)=true:=by simpa using h2'
  clear dr hrc h2 HALL
  go_enter Tryz.func38,Tryz.ntmps38
  go_wp2_with (go_at_call 76;refine TW.mono ?_;clear TW z0 z1 z2 z3 z4 z5 z6 z7 z8;rintro e w3 ⟨rfl,b3⟩;have HB3:Hid _:=b3;clear b3)
  go_ret
  exact⟨fun _=>⟨rfl,HB3.out⟩,fun e=>absurd e h2'⟩
 have hrc:=twoC_rep H a b
 rw[if_pos h2]at hrc TW
 rw[if_pos h2,h2]at TW
 obtain⟨hbo,hne⟩:=two_both h2
 obtain⟨j,m,P0⟩:=rep_of HRR.out hbo
 rw[P0.ea,P0.eb]at TW
 rw[P0.ea,P0.eb,Int.toNat_natCast]
 rw[P0.ea,Int.toNat_natCast]at hrc
 have hlen:=HRR.out.len
 have hjl:=P0.lt
 have hml:=P0.lt2
 have HHD:Hid (∀V,Below w.heap.size w V→Calls Tryz.prog 46 #[.slice (some ⟨g1,0,none⟩) H.row.length k1,.int .i64 (j:Int)] V fun e w'=>e = .returned (hv (uS (H.row.getD j 0)) (uF (H.row.getD j 0)) (uC (H.row.getD j 0)) (uH (H.row.getD j 0)) (uP (H.row.getD j 0)) (uM (H.row.getD j 0)))∧Below V.heap.size V w'):=fun V hV=>l4Head_any (ownH_at (HALL.out V hV).2).1 j hjl
 cases dp:uP (H.row.getD j 0)
 case true=>
  rw[dp,if_pos rfl]at hrc
  rw[hrc]
  simp only[dp]at HHD
  generalize uS (H.row.getD j 0)=xs at *
  generalize uF (H.row.getD j 0)=xf at *
  generalize uC (H.row.getD j 0)=xc at *
  generalize uH (H.row.getD j 0)=xh at *
  generalize uM (H.row.getD j 0)=xm at *
  clear dr hrc h2 hbo hne P0 dp
  go_enter Tryz.func38,Tryz.ntmps38
  go_upto_region 5 with (first
   |(go_at_call 76;refine TW.mono ?_;clear TW z0 z1 z2 z3 z4 z5 z6 z7 z8;rintro e w3 ⟨rfl,b3⟩;have HB3:Hid _:=b3;obtain⟨⟨z0,z1,z2,z3,z4⟩,⟨z5,z6,z7,z8⟩,_⟩:=nine_cells (HALL.out w3 b3).1;have HD:=HHD.out w3 b3;clear b3 HHD)
   |(go_at_call 46;refine HD.mono ?_;clear HD z0 z1 z2 z3 z4 z5 z6 z7 z8;rintro e w4 ⟨rfl,b4⟩;have HB4:Hid _:=HB3.out.trans (b4.mono HB3.out.size);clear b4))
  have HB5:Hid _:=HB4.out.alloc HB4.out.size (hb xs xf xc xh true xm)
  obtain⟨q0,q1,q2,q3,q4,q5,_⟩:=headAt_cells (heap_alloc_new w4 (hb xs xf xc xh true xm))
  generalize w4.alloc _=W5 at *
  go_wp2
  go_ret
  exact⟨fun _=>⟨rfl,HB5.out⟩,fun e=>absurd e (by decide)⟩
 rw[dp,if_neg (by decide)]at hrc
 rw[hrc]
 simp only[dp]at HHD
 obtain⟨hw1,hw2,hw3⟩:=rep_word HRR.out P0.lt2
 obtain⟨_,hup,hN',_⟩:=rep_places HRR.out.some' P0.obj hw1
 obtain⟨_,_,r,u,_,hu,_,_⟩:=places_facts HRR.out.some'
 have HSE:Hid (∀V vr vo vm vs,HpAt V vr vo vm vs (repH H j (4*(m:Int)+4))→Calls Tryz.prog 50 #[hpv (repH H j (4*(m:Int)+4)) vr vo vm vs] V fun e w'=>∃v',e = .returned v'∧rows.Own w' V.heap.size v' (seenL (repH H j (4*(m:Int)+4)))∧Below V.heap.size V w'):=fun V vr vo vm vs hV=>l9Seen_any hV hN' (hup.trans hu)
 obtain⟨k1c,s0,s1,s2⟩:=chunk_sz P0.chk P0.n6
 have hrl:=(rep_other (apart_of HRR.out.some') P0.obj (4*(m:Int)+4)).1
 have HNT:Hid (∀V,Below w.heap.size w V→Calls Tryz.prog 77 #[.slice (some ⟨g1,0,none⟩) H.row.length k1,.int .i64 (j:Int),.int .i64 (uS (H.row.getD j 0)),.int .i64 (m:Int)] V fun e w'=>e = .returned (.tuple #[])∧OwnH w' base (.slice (some ⟨g1,0,none⟩) H.row.length k1) (.slice a2 H.roots.length c2) (.slice a3 H.mourned.length c3) (.slice a4 H.seen.length c4) (repH H j (4*(m:Int)+4))∧V.grownBy w' (some g1)):=fun V hV=>by
  have OV:=(HALL.out V hV).2
  have hgb:=(ownH_lt OV g1 (in_hblk.1 _ (List.mem_singleton.2 rfl))).1
  refine (l4Note_any OV.1.1 rfl (by omega) hgb (Nat.le_trans hbs hV.size) s0 s1 s2 (by omega) (by omega)).mono fun e w' ⟨h1,h2,h3⟩=>⟨h1,?_,h3⟩
  exact ownH_note OV h2 hrl h3
 have HRL:Hid ((repH H j (4*(m:Int)+4)).row.length=H.row.length):=hrl
 clear dr hrc h2 hbo hne P0 dp hw1 hw2 hw3 hup hN' hu k1c s0 s1 s2 hrl
 generalize uS (H.row.getD j 0)=xs at *
 generalize uF (H.row.getD j 0)=xf at *
 generalize uC (H.row.getD j 0)=xc at *
 generalize uH (H.row.getD j 0)=xh at *
 generalize uM (H.row.getD j 0)=xm at *
 go_enter Tryz.func38,Tryz.ntmps38
 go_upto_region 5 with (first
     |(go_at_call 76;refine TW.mono ?_;clear TW z0 z1 z2 z3 z4 z5 z6 z7 z8;rintro e w3 ⟨rfl,b3⟩;have HB3:Hid _:=b3;obtain⟨⟨z0,z1,z2,z3,z4⟩,⟨z5,z6,z7,z8⟩,_⟩:=nine_cells (HALL.out w3 b3).1;have HD:=HHD.out w3 b3;clear b3 HHD)
     |(go_at_call 46;refine HD.mono ?_;clear HD z0 z1 z2 z3 z4 z5 z6 z7 z8;rintro e w4 ⟨rfl,b4⟩;have HB4:Hid _:=HB3.out.trans (b4.mono HB3.out.size);clear b4))
 have HB5:Hid _:=HB4.out.alloc HB4.out.size (hb xs xf xc xh false xm)
 have HQ5:Hid _:=heap_alloc_new w4 (hb xs xf xc xh false xm)
 obtain⟨q0,q1,q2,q3,q4,q5,_⟩:=headAt_cells HQ5.out
 generalize w4.alloc _=W5 at *
 generalize w4.heap.size=zB at *
 go_upto_region 7 with fail
 clear q0 q1 q2 q3 q4 q5
 have hPl:P≠g1:=fun e=>HPB.out (in_hblk.1 _ (by rw[e];exact List.mem_singleton.2 rfl))
 generalize hA0:(Act.mk _ [])=A0
 have e0:A0.tmps.getD 0 undef = .pointer (some ⟨P,0,none⟩):=by rw[←hA0];rfl
 have e7:A0.tmps.getD 7 undef = .int .i64 (j:Int):=by rw[←hA0];rfl
 have e8:A0.tmps.getD 8 undef = .int .i64 (m:Int):=by rw[←hA0];rfl
 have e10:A0.tmps.getD 10 undef = .pointer (some ⟨zB,0,none⟩):=by rw[←hA0];rfl
 have sz:A0.tmps.size=48:=by rw[←hA0];rfl
 refine wp_region_last (by kernel_rfl) DRn (by simp) ?_ 8 rfl dRn dRn_inj (FRn P g1 H.row.length k1 j m zB xs) ?_ ?_ ?_ ?_
 ·intro k o ho
  have hk:k<9:=(Array.getElem?_eq_some_iff.1 ho).1
  rcases (show k=0∨k=1∨k=2∨k=3∨k=4∨k=5∨k=6∨k=7∨k=8 by omega) with rfl|rfl|rfl|rfl|rfl|rfl|rfl|rfl|rfl<;>(obtain rfl:=Option.some.inj ho;simp)
 ·intro k t W W' hb h
  match k,h with
  |0,h=>exact h
  |1,h=>exact h
  |2,h=>exact h
  |3,h=>exact h
  |4,h=>exact h
  |5,h=>exact h
  |6,h=>exact h
  |7,h=>exact h
  |_+8,h=>exact h.elim
 ·intro l hC kk hkk
  have CL:=hC 8 _ rfl (fun h=>by omega)
  have l3:l 3=true:=CL ⟨3,.data⟩ (by simp) (by simp[Region.binds])
  have l4:l 4=true:=CL ⟨4,.data⟩ (by simp) (by simp[Region.binds])
  have l6:l 6=true:=CL ⟨6,.data⟩ (by simp) (by simp[Region.binds])
  have l7:l 7=true:=CL ⟨7,.data⟩ (by simp) (by simp[Region.binds])
  have l2:l 2=true:=hC 3 _ rfl (fun _=>l3) ⟨2,.data⟩ (by simp) (by simp[Region.binds])
  have l1:l 1=true:=hC 2 _ rfl (fun _=>l2) ⟨1,.data⟩ (by simp) (by simp[Region.binds])
  have l0:l 0=true:=hC 1 _ rfl (fun _=>l1) ⟨0,.data⟩ (by simp) (by simp[Region.binds])
  have l5:l 5=true:=hC 6 _ rfl (fun _=>l6) ⟨5,.data⟩ (by simp) (by simp[Region.binds])
  rcases (show kk=0∨kk=1∨kk=2∨kk=3∨kk=4∨kk=5∨kk=6∨kk=7 by omega) with rfl|rfl|rfl|rfl|rfl|rfl|rfl|rfl
  ·exact l0
  ·exact l1
  ·exact l2
  ·exact l3
  ·exact l4
  ·exact l5
  ·exact l6
  ·exact l7
 ·intro k o u W hk ho hB hF
  have ev:∀s,DRn s=true→s<48→(ovr DRn A0 u).tmps[s]?.getD undef=u s:=fun s h1 h2=>(getD_at _ _).symm.trans (eval_in h1 (by omega))
  have o0:(ovr DRn A0 u).tmps[0]?.getD undef=_:=(getD_at _ _).symm.trans ((eval_out (D:=DRn) (a0:=A0) (u:=u) (s:=0) rfl (by omega)).trans e0)
  have o7:(ovr DRn A0 u).tmps[7]?.getD undef=_:=(getD_at _ _).symm.trans ((eval_out (D:=DRn) (a0:=A0) (u:=u) (s:=7) rfl (by omega)).trans e7)
  have o8:(ovr DRn A0 u).tmps[8]?.getD undef=_:=(getD_at _ _).symm.trans ((eval_out (D:=DRn) (a0:=A0) (u:=u) (s:=8) rfl (by omega)).trans e8)
  have o10:(ovr DRn A0 u).tmps[10]?.getD undef=_:=(getD_at _ _).symm.trans ((eval_out (D:=DRn) (a0:=A0) (u:=u) (s:=10) rfl (by omega)).trans e10)
  obtain⟨⟨z0,z1,z2,z3,z4⟩,⟨z5,z6,z7,z8⟩,_⟩:=nine_cells (HALL.out W (HB5.out.trans (hB.mono HB5.out.size))).1
  obtain⟨q0,q1,q2,q3,q4,q5,_⟩:=headAt_cells ((hB.block _ (lt_of_block HQ5.out)).trans HQ5.out)
  rcases (show k=0∨k=1∨k=2∨k=3∨k=4∨k=5∨k=6∨k=7 by omega) with rfl|rfl|rfl|rfl|rfl|rfl|rfl|rfl
  all_goals obtain rfl:=Option.some.inj ho
  ·refine plainV (v:=.pointer (some ⟨P,0,none⟩)) rfl rfl ?_ rfl
   simp only[execOp]
   go_simp
   try go_num
   try (rw[IntKind.wrap_i64];omega)
  ·have x0:=(ev 32 rfl (by decide)).trans (hF 0 (by decide) (by simp[Region.binds]))
   refine plainV (v:=.pointer (some ⟨P,0,none⟩)) rfl rfl ?_ rfl
   simp only[execOp]
   go_simp
   try go_num
   try (rw[IntKind.wrap_i64];omega)
  ·have x1:=(ev 33 rfl (by decide)).trans (hF 1 (by decide) (by simp[Region.binds]))
   refine plainV (v:=.pointer (some ⟨P,2,none⟩)) rfl rfl ?_ rfl
   simp only[execOp]
   go_simp
   try go_num
   try (rw[IntKind.wrap_i64];omega)
  ·have x2:=(ev 34 rfl (by decide)).trans (hF 2 (by decide) (by simp[Region.binds]))
   refine plainV (v:=.slice (some ⟨g1,0,none⟩) H.row.length k1) rfl rfl ?_ rfl
   simp only[execOp]
   go_simp
   try go_num
   try (rw[IntKind.wrap_i64];omega)
  ·refine plainV (v:=.int .i64 (j:Int)) rfl rfl ?_ rfl
   simp only[execOp]
   go_simp
   try go_num
   try (rw[IntKind.wrap_i64];omega)
  ·refine plainV (v:=.pointer (some ⟨zB,0,none⟩)) rfl rfl ?_ rfl
   simp only[execOp]
   go_simp
   try go_num
   try (rw[IntKind.wrap_i64];omega)
  ·have x5:=(ev 37 rfl (by decide)).trans (hF 5 (by decide) (by simp[Region.binds]))
   refine plainV (v:=.int .i64 xs) rfl rfl ?_ rfl
   simp only[execOp]
   go_simp
   try go_num
   try (rw[IntKind.wrap_i64];omega)
  ·refine plainV (v:=.int .i64 (m:Int)) rfl rfl ?_ rfl
   simp only[execOp]
   go_simp
   try go_num
   try (rw[IntKind.wrap_i64];omega)
 ·intro o u W ho hB hF
  obtain rfl:=Option.some.inj ho
  have ev:∀s,DRn s=true→s<48→(ovr DRn A0 u).tmps[s]?.getD undef=u s:=fun s h1 h2=>(getD_at _ _).symm.trans (eval_in h1 (by omega))
  have o0:(ovr DRn A0 u).tmps[0]?.getD undef=_:=(getD_at _ _).symm.trans ((eval_out (D:=DRn) (a0:=A0) (u:=u) (s:=0) rfl (by omega)).trans e0)
  have o7:(ovr DRn A0 u).tmps[7]?.getD undef=_:=(getD_at _ _).symm.trans ((eval_out (D:=DRn) (a0:=A0) (u:=u) (s:=7) rfl (by omega)).trans e7)
  have o8:(ovr DRn A0 u).tmps[8]?.getD undef=_:=(getD_at _ _).symm.trans ((eval_out (D:=DRn) (a0:=A0) (u:=u) (s:=8) rfl (by omega)).trans e8)
  have o10:(ovr DRn A0 u).tmps[10]?.getD undef=_:=(getD_at _ _).symm.trans ((eval_out (D:=DRn) (a0:=A0) (u:=u) (s:=10) rfl (by omega)).trans e10)
  obtain⟨⟨z0,z1,z2,z3,z4⟩,⟨z5,z6,z7,z8⟩,_⟩:=nine_cells (HALL.out W (HB5.out.trans (hB.mono HB5.out.size))).1
  obtain⟨q0,q1,q2,q3,q4,q5,_⟩:=headAt_cells ((hB.block _ (lt_of_block HQ5.out)).trans HQ5.out)
  have x3:=(ev 35 rfl (by decide)).trans (hF 3 (by decide))
  have x4:=(ev 36 rfl (by decide)).trans (hF 4 (by decide))
  have x6:=(ev 38 rfl (by decide)).trans (hF 6 (by decide))
  have x7:=(ev 39 rfl (by decide)).trans (hF 7 (by decide))
  have HBW:Hid _:=HB5.out.trans (hB.mono HB5.out.size)
  have NT:=HNT.out W HBW.out
  clear z0 z1 z2 z3 z4 z5 z6 z7 z8 q0 q1 q2 q3 q4 q5 hF
  refine wp_call (f:=77) (args:=#[.slice (some ⟨g1,0,none⟩) H.row.length k1,.int .i64 (j:Int),.int .i64 xs,.int .i64 (m:Int)]) ?_ (NT.mono ?_)
  ·simp only[execOp]
   go_simp
  rintro e W7 ⟨rfl,O7,g7⟩
  refine⟨_,rfl,_,put_in (d:=40) rfl rfl u _,?_⟩
  have C70:Ch [g1] W W7:=⟨g7.os,g7.tape,g7.output,g7.size,fun k hk hne=>g7.block k hk (fun e=>by injection e with e;exact hne (by simp[e]))⟩
  have N7:=nine_ch (HALL.out W HBW.out).1 C70 (by simpa using hPl)
  have C7:Ch [P,g1] w W7:=(ch_below HBW.out).trans (C70.mono (fun k hk=>by simp at hk;simp[hk]))
  clear ev NT o0 o7 o8 o10 e0 e7 e8 e10 sz x3 x4 x6 x7 hB ho C70 g7 HBW
  subst hA0
  simp[ovr,DRn,List.range,List.range.loop]
  have HN7:Hid _:=N7
  have HO7:Hid _:=O7
  have HC7:Hid _:=C7
  have SE:=HSE.out _ _ _ _ _ (ownH_at O7)
  clear N7 O7 C7 HSE HNT HALL HQ5
  obtain⟨⟨z0,z1,z2,z3,z4⟩,⟨z5,z6,z7,z8⟩,_⟩:=nine_cells HN7.out
  go_upto_region 9 with (go_at_call 50;refine SE.mono ?_;clear SE z0 z1 z2 z3 z4 z5 z6 z7 z8;rintro e w8 ⟨v8,rfl,O8,b8⟩;have HO8:Hid _:=O8;have HB8:Hid _:=b8;obtain⟨⟨z0,z1,z2,z3,z4⟩,⟨z5,z6,z7,z8⟩,zf⟩:=nine_cells (nine_below HN7.out b8);have f7:=zf 7;obtain⟨oa7,on7,oc7,rfl⟩:=ints_slice (own_ints O8);clear O8 b8 zf)
  have hN8:=nine_set7 (nine_below HN7.out HB8.out) (.slice oa7 on7 oc7)
  have hO7':=ownH_below HO7.out HB8.out
  have hlt7:=ownH_lt HO7.out
  have hPl2:P<W7.heap.size:=lt_of_block HN7.out
  have hnP:∀j ∈ blk (Value.slice oa7 on7 oc7),j≠P∧∀l ∈ hblk (.slice (some ⟨g1,0,none⟩) H.row.length k1) (.slice a2 H.roots.length c2) (.slice a3 H.mourned.length c3) (.slice a4 H.seen.length c4),j≠l:=fun j hj=>by
   have h1:=(blk_lt HO8.out j hj).1
   exact⟨by omega,fun l hl=>by have:=(hlt7 l hl).2;omega⟩
  have hC8:Ch [P] w8 (w8.setCell ⟨P,7,none⟩ (.slice oa7 on7 oc7)):=one_ch _ _ _ _
  have hsz6:w.heap.size≤W7.heap.size:=HC7.out.size
  have HE:Hid (∃u,Nine (w8.setCell ⟨P,7,none⟩ (.slice oa7 on7 oc7)) P 27 (.int .i64 H.half) (.int .i64 H.old) (.slice (some ⟨g1,0,none⟩) H.row.length k1) (.int .i64 H.side) (.int .i64 H.top) (.slice a2 H.roots.length c2) (.slice a3 H.mourned.length c3) u (.int .i64 H.seed)∧OwnH (w8.setCell ⟨P,7,none⟩ (.slice oa7 on7 oc7)) base (.slice (some ⟨g1,0,none⟩) H.row.length k1) (.slice a2 H.roots.length c2) (.slice a3 H.mourned.length c3) u (repF H j (4*(m:Int)+4))∧Ch [P,g1] w (w8.setCell ⟨P,7,none⟩ (.slice oa7 on7 oc7))):=by
   refine⟨_,hN8,⟨⟨?_,?_,?_,?_⟩,?_⟩,(HC7.out.trans (ch_below HB8.out)).trans (hC8.mono (fun k hk=>by simp at hk;simp[hk]))⟩
   ·exact row_ch hO7'.1.1 hC8 (fun l hl=>by simp;rintro rfl;exact HPB.out (in_hblk.1 _ hl))
   ·exact row_ch hO7'.1.2.1 hC8 (fun l hl=>by simp;rintro rfl;exact HPB.out (in_hblk.2.1 _ hl))
   ·exact row_ch hO7'.1.2.2.1 hC8 (fun l hl=>by simp;rintro rfl;exact HPB.out (in_hblk.2.2.1 _ hl))
   ·exact own_base (row_ch HO8.out hC8 (fun l hl=>by simp;exact (hnP l hl).1)) (Nat.le_trans hbs hsz6)
   ·have hn:=HO7.out.2
    unfold hblk at hn ⊢
    rw[List.nodup_append]at hn ⊢
    refine⟨hn.1,?_,fun a ha b hb e=>(hnP b hb).2 a (by unfold hblk;exact List.mem_append.2 (.inl ha)) e.symm⟩
    unfold blk
    cases (Value.slice oa7 on7 oc7).ownBlock<;>simp
  clear hN8 hO7' hlt7 hPl2 hnP hC8 hsz6
  go_wp2_with fail
  go_ret
  exact⟨fun e=>absurd rfl e,fun _=>⟨rfl,HE.out⟩⟩
theorem res_heapI {fn:Func} {tmps:Array Value} {X:World} {j i b:Nat} {bb:Int} {a1 a2 a3 a4:Option Addr} {n1 d1 n2 d2 n3 d3 n4 d4:Nat} {x0 x1 x3 x4 x8:Int} (hf:fn.results=#[.cell j 27,.tmp i]) (h2:tmps[j]? = some (.pointer (some ⟨b,0,none⟩))) (h3:tmps[i]? = some (.int .i64 bb)) (hX:Nine X b 27 (.int .i64 x0) (.int .i64 x1) (.slice a1 n1 d1) (.int .i64 x3) (.int .i64 x4) (.slice a2 n2 d2) (.slice a3 n3 d3) (.slice a4 n4 d4) (.int .i64 x8)) :
    (results fn tmps).run Tryz.prog X = .ok (.tuple #[.agg #[.int .i64 x0,.int .i64 x1,.slice a1 n1 d1,.int .i64 x3,.int .i64 x4,.slice a2 n2 d2,.slice a3 n3 d3,.slice a4 n4 d4,.int .i64 x8],.int .i64 bb]) X:=by
 obtain⟨⟨k0,k1,k2,k3,k4⟩,⟨k5,k6,k7,k8⟩,_⟩:=nine_cells hX
 clear hX
 simp[results,hf,h2,h3,go_sem,k0,k1,k2,k3,k4,k5,k6,k7,k8]
set_option maxHeartbeats 16000000 in
theorem sReplaced_any {w:World} {vr vo vm vs:Value} {H:Hp} (h:HpAt w vr vo vm vs H) (hs:hpSize H≤1048576) (a b:Int) :
    Calls Tryz.prog 18 #[hpv H vr vo vm vs,.int .i64 a,.int .i64 b] w fun e w'=>∃(o' r' m' s':Value),e = .returned (.tuple #[hpv (repA H a b) o' r' m' s',.int .i64 (repC H a b)])∧OwnH w' w.heap.size o' r' m' s' (repA H a b)∧Below w.heap.size w w':=by
 obtain⟨a1,c1,a2,c2,a3,c3,a4,c4,e1,e2,e3,e4⟩:=hpAt_slices h
 subst e1 e2 e3 e4
 have B0:Below w.heap.size w (w.alloc (hpb H (.slice a1 H.row.length c1) (.slice a2 H.roots.length c2) (.slice a3 H.mourned.length c3) (.slice a4 H.seen.length c4))):=(Below.refl _ _).alloc (Nat.le_refl _) _
 have B1:=B0.alloc B0.size (hpb ⟨0,0,[],0,0,[],[],[],0⟩ (.slice none 0 0) (.slice none 0 0) (.slice none 0 0) (.slice none 0 0))
 have T0:=nine_new w H (.slice a1 H.row.length c1) (.slice a2 H.roots.length c2) (.slice a3 H.mourned.length c3) (.slice a4 H.seen.length c4)
 have T0':=nine_below T0 ((Below.refl _ _).alloc (Nat.le_refl _) (hpb ⟨0,0,[],0,0,[],[],[],0⟩ (.slice none 0 0) (.slice none 0 0) (.slice none 0 0) (.slice none 0 0)))
 have T1:Nine ((w.alloc (hpb H (.slice a1 H.row.length c1) (.slice a2 H.roots.length c2) (.slice a3 H.mourned.length c3) (.slice a4 H.seen.length c4))).alloc (hpb ⟨0,0,[],0,0,[],[],[],0⟩ (.slice none 0 0) (.slice none 0 0) (.slice none 0 0) (.slice none 0 0))) (w.heap.size+1) 27 (.int .i64 0) (.int .i64 0) (.slice none 0 0) (.int .i64 0) (.int .i64 0) (.slice none 0 0) (.slice none 0 0) (.slice none 0 0) (.int .i64 0):=(congrArg (fun k=>((w.alloc (hpb H (.slice a1 H.row.length c1) (.slice a2 H.roots.length c2) (.slice a3 H.mourned.length c3) (.slice a4 H.seen.length c4))).alloc (hpb ⟨0,0,[],0,0,[],[],[],0⟩ (.slice none 0 0) (.slice none 0 0) (.slice none 0 0) (.slice none 0 0))).heap[k]?) (show w.heap.size+1=(w.alloc (hpb H (.slice a1 H.row.length c1) (.slice a2 H.roots.length c2) (.slice a3 H.mourned.length c3) (.slice a4 H.seen.length c4))).heap.size by simp)).trans (heap_alloc_new _ _)
 have sX:w.heap.size+2=((w.alloc (hpb H (.slice a1 H.row.length c1) (.slice a2 H.roots.length c2) (.slice a3 H.mourned.length c3) (.slice a4 H.seen.length c4))).alloc (hpb ⟨0,0,[],0,0,[],[],[],0⟩ (.slice none 0 0) (.slice none 0 0) (.slice none 0 0) (.slice none 0 0))).heap.size:=by simp
 have HHX:=hpAt_below h B1
 have HB1:Hid _:=B1
 have HT0:Hid _:=T0'
 have HT1:Hid _:=T1
 have HSZ:Hid _:=hs
 obtain⟨R,hR⟩:∃R,repA H a b=R:=⟨_,rfl⟩
 obtain⟨Rb,hRb⟩:∃Rb,repC H a b=Rb:=⟨_,rfl⟩
 rw[hR,hRb]
 have HR:Hid _:=hR
 have HRb:Hid _:=hRb
 clear h B0 B1 T0 T0' T1 hR hRb
 go_enter Tryz.func18,Tryz.ntmps18
 go_upto_region 1 with fail
 generalize hX:(w.alloc _).alloc _=X at *
 have HsX:Hid _:=sX
 clear hX sX
 have HK:=sHeapOk_any HHX hs
 have HH:Hid _:=HHX
 clear HHX hs
 obtain⟨⟨z0,z1,z2,z3,z4⟩,⟨z5,z6,z7,z8⟩,_⟩:=nine_cells HT0.out
 cases dr:heapOk H
 ·rw[dr]at HK
  obtain rfl:hp0=R:=by rw[←HR.out];unfold repA;rw[if_neg (by rw[dr];decide)]
  obtain rfl:(1:Int)=Rb:=by rw[←HRb.out];unfold repC rootOk;rw[dr];simp
  clear dr HR HRb
  go_upto_region 2 with (go_at_call 25;refine HK.mono ?_;clear HK z0 z1 z2 z3 z4 z5 z6 z7 z8;rintro e w2 ⟨rfl,b2⟩;have HBE:Hid _:=HB1.out.trans (b2.mono HB1.out.size);have HN1:Hid _:=nine_below HT1.out b2;clear b2)
  obtain⟨⟨y0,y1,y2,y3,y4⟩,⟨y5,y6,y7,y8⟩,yf⟩:=nine_cells HN1.out
  have f0:=yf 0
  have f1:=yf 1
  have f2:=yf 2
  have f3:=yf 3
  have f4:=yf 4
  have f5:=yf 5
  have f6:=yf 6
  have f7:=yf 7
  have f8:=yf 8
  clear yf
  go_wp2_with fail
  exact bodyPost_ret (res_heapI rfl rfl rfl (nine_sets HN1.out _ _ _ _ _ _ _ _ _)) rfl ⟨_,_,_,_,rfl,ownZ _ _,nine_belows HBE.out (by omega) _ _ _ _ _ _ _ _ _⟩
 rw[dr]at HK
 obtain⟨ps,RR⟩:=rt_of (ok_right dr).1
 have HDR:Hid _:=dr
 have HRR:Hid _:=RR
 have HR2:Hid ((if repC H a b=0 then repF H (rpX H a).toNat (4*rpX H b+4) else H)=R):=by show _=_;rw[←HR.out];unfold repA;rw[if_pos dr]
 have HRb2:Hid (repC H a b=Rb):=HRb.out
 have HCP:Hid (∀V,HpAt V (.slice a1 H.row.length c1) (.slice a2 H.roots.length c2) (.slice a3 H.mourned.length c3) (.slice a4 H.seen.length c4) H→_):=fun V hV=>l9Copy_any hV HSZ.out
 clear dr RR HR HRb
 go_upto_region 4 with (first
     |(go_at_call 25;refine HK.mono ?_;clear HK z0 z1 z2 z3 z4 z5 z6 z7 z8;rintro e w2 ⟨rfl,b2⟩;have HB2:Hid _:=HB1.out.trans (b2.mono HB1.out.size);have HX2:Hid _:=b2.size;obtain⟨⟨z0,z1,z2,z3,z4⟩,⟨z5,z6,z7,z8⟩,_⟩:=nine_cells (nine_below HT0.out b2);have HN1:Hid _:=nine_below HT1.out b2;have CP:=HCP.out w2 (hpAt_below HH.out b2);clear b2 HCP)
     |(go_at_call 26;refine CP.mono ?_;clear CP z0 z1 z2 z3 z4 z5 z6 z7 z8;rintro e w3 ⟨g1,g2,g3,k1,k2,k3,s',rfl,O3,b3⟩;have HO3:Hid _:=O3;have HB3:Hid _:=HB2.out.trans (b3.mono HB2.out.size);have HX3:Hid _:=b3.size;have HN3:Hid _:=nine_below HN1.out b3;obtain⟨sa,sn,sc,rfl⟩:=ints_slice (own_ints O3.1.2.2.2);clear O3 b3))
 have BV:Below w3.heap.size w3 (w3.alloc (hpb H (.slice (some ⟨g1,0,none⟩) H.row.length k1) (.slice (some ⟨g2,0,none⟩) H.roots.length k2) (.slice (some ⟨g3,0,none⟩) H.mourned.length k3) (.slice sa sn sc))):=(Below.refl _ _).alloc (Nat.le_refl _) _
 have HNV:Hid _:=nine_new w3 H (.slice (some ⟨g1,0,none⟩) H.row.length k1) (.slice (some ⟨g2,0,none⟩) H.roots.length k2) (.slice (some ⟨g3,0,none⟩) H.mourned.length k3) (.slice sa sn sc)
 have HG:Hid _:=ownH_lt HO3.out
 have HPN:Hid (w3.heap.size ∉ hblk (.slice (some ⟨g1,0,none⟩) H.row.length k1) (.slice (some ⟨g2,0,none⟩) H.roots.length k2) (.slice (some ⟨g3,0,none⟩) H.mourned.length k3) (.slice sa sn sc)):=fun hm=>by have:=(HG.out _ hm).2;omega
 have HOV:Hid _:=ownH_below HO3.out BV
 have ST:=l18Replace_any HRR.out HDR.out HNV.out HOV.out HPN.out (Nat.le_trans HX3.out BV.size) a b
 have HN4:Hid _:=nine_below HN3.out BV
 have HB4:Hid _:=HB3.out.trans (BV.mono HB3.out.size)
 have HV4:Hid _:=BV.size
 clear BV HO3 HN3 HN1
 have hg1:=(HG.out g1 (in_hblk.1 _ (List.mem_singleton.2 rfl))).1
 have HX4:Hid (w.heap.size+2≤w2.heap.size∧w2.heap.size≤g1∧w2.heap.size≤w3.heap.size):=by
  have q5:=HX2.out
  have q6:=HsX.out
  have q7:=HX3.out
  exact⟨by omega,hg1,q7⟩
 clear hg1
 generalize w3.alloc (hpb H (.slice (some ⟨g1,0,none⟩) H.row.length k1) (.slice (some ⟨g2,0,none⟩) H.roots.length k2) (.slice (some ⟨g3,0,none⟩) H.mourned.length k3) (.slice sa sn sc))=V at *
 generalize w3.heap.size=P at *
 by_cases db:repC H a b=0
 case neg=>
  obtain rfl:H=R:=by rw[←HR2.out,if_neg db]
  have S0:=ST.mono (fun e w' (g:_∧_)=>g.1 db)
  rw[HRb2.out]at S0
  clear ST HR2 HRb2 db
  go_upto_region 5 with (go_at_call 38;refine S0.mono ?_;clear S0;rintro e w5 ⟨rfl,b5⟩;have HB5:Hid _:=b5;clear b5)
  obtain⟨⟨z0,z1,z2,z3,z4⟩,⟨z5,z6,z7,z8⟩,_⟩:=nine_cells (nine_below HNV.out HB5.out)
  have HN6:Hid _:=nine_below HN4.out HB5.out
  obtain⟨⟨y0,y1,y2,y3,y4⟩,⟨y5,y6,y7,y8⟩,yf⟩:=nine_cells HN6.out
  have f0:=yf 0
  have f1:=yf 1
  have f2:=yf 2
  have f3:=yf 3
  have f4:=yf 4
  have f5:=yf 5
  have f6:=yf 6
  have f7:=yf 7
  have f8:=yf 8
  clear yf
  have HBE:Hid _:=HB4.out.trans (HB5.out.mono HB4.out.size)
  go_wp2_with fail
  refine bodyPost_ret (res_heapI rfl rfl rfl (nine_sets HN6.out _ _ _ _ _ _ _ _ _)) rfl ⟨_,_,_,_,rfl,?_,nine_belows HBE.out (by omega) _ _ _ _ _ _ _ _ _⟩
  have hx4:=HX4.out
  have H5:=ownH_below HOV.out HB5.out
  have on:∀ {v:Value} {xs:List Int},rows.Own w5 w2.heap.size v xs→∀ {W:World},Ch [w.heap.size+1] w5 W→rows.Own W w.heap.size v xs:=fun {v xs} ho {W} hc=>own_base (row_ch ho hc (fun j hj=>by have:=(blk_lt ho j hj).1;simp;omega)) (by omega)
  exact⟨⟨on H5.1.1 (nine_other _ _ _ _ _ _ _ _ _),on H5.1.2.1 (nine_other _ _ _ _ _ _ _ _ _),on H5.1.2.2.1 (nine_other _ _ _ _ _ _ _ _ _),on H5.1.2.2.2 (nine_other _ _ _ _ _ _ _ _ _)⟩,H5.2⟩
 case pos=>
  obtain rfl:repF H (rpX H a).toNat (4*rpX H b+4)=R:=by rw[←HR2.out,if_pos db]
  obtain rfl:(0:Int)=Rb:=by rw[←HRb2.out,db]
  have S0:=ST.mono (fun e w' (g:_∧_)=>g.2 db)
  clear ST db HR2 HRb2
  go_upto_region 5 with (go_at_call 38;refine S0.mono ?_;clear S0;rintro e w5 ⟨rfl,u,N5,O5,C5⟩;have HN5:Hid _:=N5;have HO5:Hid _:=O5;have HC5:Hid _:=C5;obtain⟨ua,un,uc,rfl⟩:=ints_slice (own_ints O5.1.2.2.2);clear N5 O5 C5)
  obtain⟨⟨z0,z1,z2,z3,z4⟩,⟨z5,z6,z7,z8⟩,_⟩:=nine_cells HN5.out
  have HN6:Hid _:=nine_ch HN4.out HC5.out (fun hm=>by have:=HX4.out;simp at hm;omega)
  obtain⟨⟨y0,y1,y2,y3,y4⟩,⟨y5,y6,y7,y8⟩,yf⟩:=nine_cells HN6.out
  have f0:=yf 0
  have f1:=yf 1
  have f2:=yf 2
  have f3:=yf 3
  have f4:=yf 4
  have f5:=yf 5
  have f6:=yf 6
  have f7:=yf 7
  have f8:=yf 8
  clear yf
  have HBE:Hid _:=HB4.out.trans (below_ch HC5.out HB4.out.size (fun k hk=>by have:=HX4.out;simp at hk;omega))
  go_wp2_with fail
  refine bodyPost_ret (res_heapI rfl rfl rfl (nine_sets HN6.out _ _ _ _ _ _ _ _ _)) rfl ⟨_,_,_,_,rfl,?_,nine_belows HBE.out (by omega) _ _ _ _ _ _ _ _ _⟩
  have hx4:=HX4.out
  have H5:=HO5.out
  have on:∀ {v:Value} {xs:List Int},rows.Own w5 w2.heap.size v xs→∀ {W:World},Ch [w.heap.size+1] w5 W→rows.Own W w.heap.size v xs:=fun {v xs} ho {W} hc=>own_base (row_ch ho hc (fun j hj=>by have:=(blk_lt ho j hj).1;simp;omega)) (by omega)
  exact⟨⟨on H5.1.1 (nine_other _ _ _ _ _ _ _ _ _),on H5.1.2.1 (nine_other _ _ _ _ _ _ _ _ _),on H5.1.2.2.1 (nine_other _ _ _ _ _ _ _ _ _),on H5.1.2.2.2 (nine_other _ _ _ _ _ _ _ _ _)⟩,H5.2⟩
end Go.Proofs.YtemlagfaaibenaaGreat.hp
