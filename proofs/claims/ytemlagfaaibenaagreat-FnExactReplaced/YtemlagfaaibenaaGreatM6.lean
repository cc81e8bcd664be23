/-
  What the specification's l1Has answers (for seats without graphs). Chapter 9 as the specification has it: a word of a heap, a note's end, who is young. Chapter 9 as the specification has it: a note's end, who is young. Chapter 4 as the specification has it: an object written into a row. Chapter 4 as
-/
import Derived.Test.YtemlagfaaibenaaGreatM4
import Derived.Test.YtemlagfaaibenaaGreatM3
import Derived.Test.YtemlagfaaibenaaGreatM1
import Derived.Test.YtemlagfaaibenaaGreatWalkD
import Derived.Test.YtemlagfaaibenaaGreatM2
namespace Go.Proofs.YtemlagfaaibenaaGreat.hp
open Go.RowKit rows heads words walks
set_option maxRecDepth 100000
set_option maxHeartbeats 4000000 in
theorem l1Has_any {w:World} {v:Value} {xs:List Int} (h:IntsAt w v xs) (hl:xs.length≤1048576) (n:Int) :
    Calls Tryz.prog 114 #[v,.int .i64 n] w fun e w'=>e = .returned (.bool (decide (n ∈ xs)))∧w'=w:=by
 obtain⟨a,cap,rfl,hlc,hcm,_,hc⟩:=h
 have HC:Hid _:=hc
 obtain⟨RV,hRV⟩:∃RV,decide (n ∈ xs)=RV:=⟨_,rfl⟩
 rw[hRV]
 have HRV:Hid _:=hRV
 clear hc hRV
 go_enter Tryz.func114,Tryz.ntmps114
 go_wp2_with fail
 go_loopw [5] (fun p wr=>∃k:Nat,k≤xs.length∧p = .int .i64 k∧(∀j,j<k→¬xs.getD j 0=n)∧wr=w) (fun p _=>xs.length-(intOf p).toNat)
 case atStart=>exact⟨0,Nat.zero_le _,rfl,fun j hj=>by omega,rfl⟩
 case round=>
  obtain⟨k,hk,rfl,hne,hw⟩:=hrel
  subst hw
  by_cases hlt:k<xs.length
  ·obtain⟨b,off,rfl,hb,hcc⟩:=HC.out (by omega)
   have c0:=hcc k hlt
   have hget:xs.getD k 0 ∈ xs:=by
    rw[List.getD_eq_getElem?_getD,List.getElem?_eq_getElem hlt]
    exact List.getElem_mem hlt
   by_cases hy:xs.getD k 0=n
   ·have HV:Hid (RV=true):=by show _=_;rw[←HRV.out,decide_eq_true_eq,←hy];exact hget
    have hy':(xs.getD k 0==n)=true:=by simpa using hy
    clear hcc HC hne hget hy
    generalize xs.getD k 0=y at *
    go_wp2
    go_ret
    exact⟨by rw[HV.out];rfl,rfl⟩
   ·have HV:Hid (∀j,j<k+1→¬xs.getD j 0=n):=fun j hj=>by
      by_cases e:j=k
      ·rw[e];exact hy
      ·exact hne j (by omega)
    have hy':(xs.getD k 0==n)=false:=by simpa using hy
    clear hcc HC hne hget hy
    generalize xs.getD k 0=y at *
    go_wp2
    exact⟨⟨k+1,by omega,by go_num,HV,by trivial⟩,by simp[intOf];omega⟩
  ·have HV:Hid (RV=false):=by
     show _=_
     rw[←HRV.out,decide_eq_false_iff_not]
     intro hm
     obtain⟨i,hi,e⟩:=List.getElem_of_mem hm
     refine hne i (by omega) ?_
     rw[List.getD_eq_getElem?_getD,List.getElem?_eq_getElem hi]
     exact e
   clear HC hne HRV
   go_wp2
   go_ret
   exact⟨by rw[HV.out];rfl,rfl⟩
end Go.Proofs.YtemlagfaaibenaaGreat.hp
namespace Go.Proofs.YtemlagfaaibenaaGreat.hp
open Go.RowKit rows heads words walks
set_option maxRecDepth 100000
set_option linter.unusedVariables false
def wordIn (H:Hp) (ps:List Int) (x:Int):Bool:=isW x&&(!(isA x) || (decide (av x ∈ ps) && !(uF (H.row.getD (av x).toNat 0)==6)))
set_option maxHeartbeats 4000000 in
theorem l9Word_any {w:World} {vr vo vm vs vp:Value} {H:Hp} (h:HpAt w vr vo vm vs H) {ps:List Int} (hp:IntsAt w vp ps) (hpl:ps.length≤1048576) (hP:Plc H ps) (x:Int) :
    Calls Tryz.prog 86 #[hpv H vr vo vm vs,vp,.int .i64 x] w fun e w'=>e = .returned (.bool (wordIn H ps x))∧Below w.heap.size w w':=by
 obtain⟨a1,c1,a2,c2,a3,c3,a4,c4,e1,e2,e3,e4⟩:=hpAt_slices h
 subst e1 e2 e3 e4
 have hp':=hp
 obtain⟨ap,cp,rfl,_,_,_,_⟩:=hp
 have B0:Below w.heap.size w (w.alloc (hpb H (.slice a1 H.row.length c1) (.slice a2 H.roots.length c2) (.slice a3 H.mourned.length c3) (.slice a4 H.seen.length c4))):=(Below.refl _ _).alloc (Nat.le_refl _) _
 obtain⟨⟨z0,z1,z2,z3,z4⟩,⟨z5,z6,z7,z8⟩,_⟩:=nine_cells (nine_new w H (.slice a1 H.row.length c1) (.slice a2 H.roots.length c2) (.slice a3 H.mourned.length c3) (.slice a4 H.seen.length c4))
 have HB0:Hid _:=B0
 have LH:=l1Has_any (w:=w.alloc (hpb H (.slice a1 H.row.length c1) (.slice a2 H.roots.length c2) (.slice a3 H.mourned.length c3) (.slice a4 H.seen.length c4))) (intsAt_below hp' B0) hpl (av x)
 unfold wordIn
 cases dW:isW x
 ·rw[Bool.false_and]
  clear LH
  go_enter Tryz.func86,Tryz.ntmps86
  go_wp2_with (go_at_call 113;refine (sWordOk_any _ _).mono ?_;rintro e w3 ⟨rfl,hw3⟩;rw[hw3,dW];clear hw3 w3)
  go_ret
  exact⟨rfl,HB0.out⟩
 ·rw[Bool.true_and]
  cases dA:isA x
  ·clear LH
   go_enter Tryz.func86,Tryz.ntmps86
   go_wp2_with (first|(go_at_call 113;refine (sWordOk_any _ _).mono ?_;rintro e w3 ⟨rfl,hw3⟩;rw[hw3,dW];clear hw3 w3)|(go_at_call 44;refine (sAddrOf_any _ _).mono ?_;rintro e w3 ⟨rfl,hw3⟩;rw[hw3,dA];clear hw3 w3))
   go_ret
   exact⟨rfl,HB0.out⟩
  ·cases dM:decide (av x ∈ ps)
   ·rw[dM]at LH
    rw[Bool.false_and,Bool.or_false,Bool.not_true]
    go_enter Tryz.func86,Tryz.ntmps86
    go_wp2_with (first|(go_at_call 113;refine (sWordOk_any _ _).mono ?_;rintro e w3 ⟨rfl,hw3⟩;rw[hw3,dW];clear hw3 w3)|(go_at_call 44;refine (sAddrOf_any _ _).mono ?_;rintro e w3 ⟨rfl,hw3⟩;rw[hw3,dA];clear hw3 w3)|(go_at_call 114;refine LH.mono ?_;clear LH;rintro e w3 ⟨rfl,hw3⟩;rw[hw3];clear hw3 w3))
    go_ret
    exact⟨rfl,HB0.out⟩
   ·rw[dM]at LH
    rw[Bool.true_and,Bool.not_true,Bool.false_or]
    obtain⟨j,hj,hjl⟩:=hP _ (of_decide_eq_true dM)
    have L4:=l4Head_any (intsAt_below h.1 B0) j hjl
    rw[hj,Int.toNat_natCast]
    unfold hw at L4
    have SA:=sAddrOf_any x
    rw[hj]at LH SA
    generalize uF (H.row.getD j 0)=f at *
    generalize uS (H.row.getD j 0)=s at *
    generalize uC (H.row.getD j 0)=c at *
    generalize uH (H.row.getD j 0)=g at *
    generalize uP (H.row.getD j 0)=p at *
    generalize uM (H.row.getD j 0)=m at *
    have FF:=field_format s f c g p m
    have hb:(f != 6) = !(f==6):=rfl
    clear B0 dM h hp'
    go_enter Tryz.func86,Tryz.ntmps86
    go_wp2_with (first|(go_at_call 113;refine (sWordOk_any _ _).mono ?_;rintro e w3 ⟨rfl,hw3⟩;rw[hw3,dW];clear hw3 w3)|(go_at_call 44;refine (SA _).mono ?_;clear SA;rintro e w3 ⟨rfl,hw3⟩;rw[hw3,dA];clear hw3 w3)|(go_at_call 114;refine LH.mono ?_;clear LH;rintro e w3 ⟨rfl,hw3⟩;rw[hw3];clear hw3 w3)|(go_at_call 46;refine L4.mono ?_;clear L4;rintro e w3 ⟨rfl,b3⟩;have HB3:Hid _:=HB0.out.trans (b3.mono HB0.out.size);clear b3))
    go_ret
    exact⟨by rw[←hb];rfl,HB3.out⟩
def youngB (H:Hp) (x:Int):Bool:=isA x&&decide (av x<2*H.half)
theorem av_small (x:Int) (h:isA x=true):0≤av x∧av x≤999:=by
 have e:av x=x / 4-1:=by unfold av;simp[h]
 simp only[isA,Bool.and_eq_true,decide_eq_true_eq]at h
 omega
set_option maxHeartbeats 2000000 in
theorem l9Young_any {w:World} {vr vo vm vs:Value} {H:Hp} (h:HpAt w vr vo vm vs H) (h0 : -1000≤H.half∧H.half≤1000) (x:Int) :
    Calls Tryz.prog 88 #[hpv H vr vo vm vs,.int .i64 x] w fun e w'=>e = .returned (.bool (youngB H x))∧Below w.heap.size w w':=by
 obtain⟨a1,c1,a2,c2,a3,c3,a4,c4,e1,e2,e3,e4⟩:=hpAt_slices h
 subst e1 e2 e3 e4
 have HB0:Hid (Below w.heap.size w (w.alloc (hpb H (.slice a1 H.row.length c1) (.slice a2 H.roots.length c2) (.slice a3 H.mourned.length c3) (.slice a4 H.seen.length c4)))):=(Below.refl _ _).alloc (Nat.le_refl _) _
 obtain⟨⟨z0,z1,z2,z3,z4⟩,⟨z5,z6,z7,z8⟩,_⟩:=nine_cells (nine_new w H (.slice a1 H.row.length c1) (.slice a2 H.roots.length c2) (.slice a3 H.mourned.length c3) (.slice a4 H.seen.length c4))
 unfold youngB
 have SA:=sAddrOf_any x
 cases dA:isA x
 ·rw[dA]at SA
  rw[Bool.false_and]
  clear h
  go_enter Tryz.func88,Tryz.ntmps88
  go_wp2_with (go_at_call 44;refine (SA _).mono ?_;clear SA;rintro e w3 ⟨rfl,hw3⟩;rw[hw3];clear hw3 w3)
  go_ret
  exact⟨rfl,HB0.out⟩
 ·rw[dA]at SA
  rw[Bool.true_and]
  have hs:=av_small x dA
  generalize av x=a at *
  clear h dA
  go_enter Tryz.func88,Tryz.ntmps88
  go_wp2_with (go_at_call 44;refine (SA _).mono ?_;clear SA;rintro e w3 ⟨rfl,hw3⟩;rw[hw3];clear hw3 w3)
  go_ret
  exact⟨rfl,HB0.out⟩
def endsL (H:Hp):Nat→Int→Bool
 |0,_=>false
 |n+1,p=>if uF (H.row.getD p.toNat 0)=7 then endsL H n (av (H.row.getD (p.toNat+1) 0)) else true
def Notes (H:Hp) (ps:List Int):Prop:=∀p ∈ ps,uF (H.row.getD p.toNat 0)=7→p.toNat+1<H.row.length∧isA (H.row.getD (p.toNat+1) 0)=true∧av (H.row.getD (p.toNat+1) 0) ∈ ps
set_option maxHeartbeats 4000000 in
theorem l9Ends_any {w:World} {vr vo vm vs:Value} {H:Hp} (h:HpAt w vr vo vm vs H) (hrl:H.row.length≤1048576) {ps:List Int} (hP:Plc H ps) (hN:Notes H ps) (p:Int) (hp:p ∈ ps) (n:Nat) (hn:n≤1048576) :
    Calls Tryz.prog 87 #[hpv H vr vo vm vs,.int .i64 p,.int .i64 n] w fun e w'=>e = .returned (.bool (endsL H (n+1) p))∧Below w.heap.size w w':=by
 obtain⟨a1,c1,a2,c2,a3,c3,a4,c4,e1,e2,e3,e4⟩:=hpAt_slices h
 subst e1 e2 e3 e4
 have B0:Below w.heap.size w (w.alloc (hpb H (.slice a1 H.row.length c1) (.slice a2 H.roots.length c2) (.slice a3 H.mourned.length c3) (.slice a4 H.seen.length c4))):=(Below.refl _ _).alloc (Nat.le_refl _) _
 have HB0:Hid _:=B0
 have HT0:Hid _:=nine_new w H (.slice a1 H.row.length c1) (.slice a2 H.roots.length c2) (.slice a3 H.mourned.length c3) (.slice a4 H.seen.length c4)
 have HH:Hid _:=h
 obtain⟨R,hR⟩:∃R,endsL H (n+1) p=R:=⟨_,rfl⟩
 rw[hR]
 have HR:Hid _:=hR
 have HP:Hid _:=hP
 have HN:Hid _:=hN
 clear h B0 hR hP hN
 go_enter Tryz.func87,Tryz.ntmps87
 go_wp2_with fail
 go_loopw [1,2] (fun u i wz=>∃(q:Int) (k:Nat),u = .int .i64 q∧i = .int .i64 ((k:Int)-1)∧k≤n+1∧q ∈ ps∧endsL H k q=R∧Nine wz w.heap.size 27 (.int .i64 H.half) (.int .i64 H.old) (.slice a1 H.row.length c1) (.int .i64 H.side) (.int .i64 H.top) (.slice a2 H.roots.length c2) (.slice a3 H.mourned.length c3) (.slice a4 H.seen.length c4) (.int .i64 H.seed)∧Below w.heap.size w wz) (fun _ i _=>(intOf i+1).toNat)
 case atStart=>exact⟨p,n+1,rfl,by simp,Nat.le_refl _,hp,HR.out,HT0.out,HB0.out⟩
 case round=>
  obtain⟨q,k,rfl,rfl,hk,hq,hE,hT,hB⟩:=hrel
  clear HT0 HB0 HR
  obtain⟨j,hj,hjl⟩:=HP.out q hq
  subst hj
  obtain⟨⟨z0,z1,z2,z3,z4⟩,⟨z5,z6,z7,z8⟩,_⟩:=nine_cells hT
  have sr:=hB.size
  cases k with
  |zero=>
   have hE':R=false:=by rw[←hE];rfl
   have HE:Hid _:=hE'
   have HB:Hid _:=hB
   have hneg:¬((0:Nat):Int)-1 ≥ 0:=by decide
   clear hE hE' hT hB
   go_wp2
   go_ret
   exact⟨by rw[HE.out];rfl,HB.out⟩
  |succ k=>
   have hI:=(hpAt_below HH.out hB).1
   have L4:=l4Head_any hI j hjl
   unfold hw at L4
   have hge:((k+1:Nat):Int)-1 ≥ 0:=by omega
   have hee:endsL H (k+1) (j:Int)=if uF (H.row.getD j 0)=7 then endsL H k (av (H.row.getD (j+1) 0)) else true:=by
    simp only[endsL,Int.toNat_natCast]
   rw[hee]at hE
   have hnn:=HN.out (j:Int) hq
   rw[Int.toNat_natCast]at hnn
   generalize uF (H.row.getD j 0)=f at *
   generalize uS (H.row.getD j 0)=s at *
   generalize uC (H.row.getD j 0)=c at *
   generalize uH (H.row.getD j 0)=g at *
   generalize uP (H.row.getD j 0)=p0 at *
   generalize uM (H.row.getD j 0)=m at *
   have FF:=field_format s f c g p0 m
   have HT:Hid _:=hT
   have HB:Hid _:=hB
   by_cases h7:f=7
   ·obtain⟨hj1,hA,hmem⟩:=hnn h7
    subst h7
    rw[if_pos rfl]at hE
    obtain⟨a',c',e',_,_,_,hcc⟩:=hI
    have e1:a1=a':=by injection e'
    subst e1
    obtain⟨b,off,rfl,hb,hcc⟩:=hcc (by omega)
    have x1:=hcc (j+1) hj1
    have SA:=sAddrOf_any (H.row.getD (j+1) 0)
    rw[hA]at SA
    have HE:Hid _:=hE
    have HM:Hid _:=hmem
    generalize H.row.getD (j+1) 0=y at *
    generalize av y=ay at *
    have hj1':((j:Int)+1).toNat=j+1:=by omega
    have hj2:(0:Int)≤(j:Int)+1:=by omega
    have hj3:(j:Int)+1<(H.row.length:Int):=by omega
    clear hT hB hE hmem hcc e' hee hnn
    go_wp2_with fail
    refine L4.mono ?_
    rintro e w2 ⟨rfl,b2⟩
    have T2:=nine_below HT.out b2
    have x2:=(b2.cell (p:=⟨b,off+(j+1),none⟩) hb).trans x1
    obtain⟨⟨y0,y1,y2,y3,y4⟩,⟨y5,y6,y7,y8⟩,_⟩:=nine_cells T2
    have HT2:Hid _:=T2
    have HB2:Hid _:=HB.out.trans (b2.mono sr)
    clear L4 b2 T2 z0 z1 z2 z3 z4 z5 z6 z7 z8 x1
    go_wp2_with (go_at_call 44;refine (SA _).mono ?_;clear SA;rintro e w3 ⟨rfl,hw3⟩;rw[hw3];clear hw3 w3)
    exact⟨⟨ay,k,rfl,by go_num,by omega,HM.out,HE.out,HT2.out,HB2.out⟩,by simp[intOf]⟩
   ·have h7':(f != 7)=true:=by simp[h7]
    rw[if_neg h7]at hE
    have HE:Hid (R=true):=hE.symm
    clear hT hB hE hee hnn
    go_wp2_with fail
    refine L4.mono ?_
    rintro e w2 ⟨rfl,b2⟩
    have HB2:Hid _:=HB.out.trans (b2.mono sr)
    clear L4 b2
    go_wp2
    go_ret
    exact⟨by rw[HE.out];rfl,HB2.out⟩
end Go.Proofs.YtemlagfaaibenaaGreat.hp
namespace Go.Proofs.YtemlagfaaibenaaGreat.walks
open Go.RowKit rows heads words
set_option maxRecDepth 100000
theorem own_nothing2 {w:World} {base g:Nat} (hg:g=w.heap.size) (hb:base≤g):rows.Own (w.alloc (.cells #[] 2)) base (.slice (some ⟨g,0,none⟩) 0 0) []:=by
 subst hg;exact own_nothing w base hb
theorem all_yes {ys:List Int} (h:∀q,q<ys.length→isW (ys.getD q 0)=true):ys.all isW=true:=by
 rw[List.all_eq_true]
 intro x hx
 obtain⟨q,hq,rfl⟩:=List.mem_iff_getElem.1 hx
 have:=h q hq
 rwa [List.getD_eq_getElem?_getD,List.getElem?_eq_getElem hq]at this
theorem headAt_no {w:World} {v:Value} {xs:List Int} (h:IntsAt w v xs) (hl:xs.length≤1048576) (i:Int) (hi:I64 i) (d:okAt xs i=false) :
    Calls Tryz.prog 146 #[v,.int .i64 i] w fun e w'=>e = .returned (.tuple #[hv 0 0 0 0 false false,.bool false])∧Below w.heap.size w w':=by
 have B0:Below w.heap.size w (w.alloc (hb 0 0 0 0 false false)):=(Below.refl _ _).alloc (Nat.le_refl _) _
 have T0:=headAt_new w 0 0 0 0 false false
 have s0:w.heap.size+1≤(w.alloc (hb 0 0 0 0 false false)).heap.size:=by simp
 have RD:=implReadAt _ v xs i (intsAt_below h B0) hl hi
 rw[d]at RD
 go_enter Tryz.func146,Tryz.ntmps146
 go_wp2_with fail
 generalize (w.alloc (Obj.cells #[.int .i64 0,.int .i64 0,.int .i64 0,.int .i64 0,.bool false,.bool false] 39))=X at *
 refine RD.mono ?_
 rintro e w1 ⟨rfl,b1⟩
 have T1:=headAt_below T0 b1
 have B1:=B0.trans (b1.mono (by omega))
 obtain⟨t0,t1,t2,t3,t4,t5,tf⟩:=headAt_cells T1
 have f0:=tf 0;have f1:=tf 1;have f2:=tf 2;have f3:=tf 3;have f4:=tf 4;have f5:=tf 5
 have T2:Hid _:=six_set T1 0 0 0 0 false false
 have B2:Hid _:=six_below B1 (Nat.le_refl _) 0 0 0 0 false false
 clear b1 RD T0 B0 B1 tf T1
 generalize readAt xs i=z at *
 go_wp2
 exact bodyPost_ret (v:=.tuple #[hv 0 0 0 0 false false,.bool false]) (res_head_one rfl rfl rfl T2) rfl ⟨rfl,B2⟩
theorem headAt_drew {w:World} {b:Nat} {s f c h:Int} {p m:Bool} (hh:HeadAt w b s f c h p m):HeadAt w.drew b s f c h p m:=hh
theorem headAt_yes {w:World} {v:Value} {xs:List Int} (h:IntsAt w v xs) (hl:xs.length≤1048576) (k:Nat) (d:okAt xs k=true) (hx:I64 (xs.getD k 0)) :
    Calls Tryz.prog 146 #[v,.int .i64 k] w fun e w'=>e = .returned (.tuple #[hv (uS (xs.getD k 0)) (uF (xs.getD k 0)) (uC (xs.getD k 0)) (uH (xs.getD k 0)) (uP (xs.getD k 0)) (uM (xs.getD k 0)),.bool (ok (xs.getD k 0) && !uM (xs.getD k 0))])∧Below w.heap.size w w':=by
 have hk:(k:Int)<xs.length:=(atOk_true (by simp only[okAt,Bool.and_eq_true]at d;exact d.2)).2
 have B0:Below w.heap.size w (w.alloc (hb 0 0 0 0 false false)):=(Below.refl _ _).alloc (Nat.le_refl _) _
 have T0:=headAt_new w 0 0 0 0 false false
 have s0:w.heap.size+1≤(w.alloc (hb 0 0 0 0 false false)).heap.size:=by simp
 have RD:=implReadAt _ v xs k (intsAt_below h B0) hl ⟨by omega,by omega⟩
 have er:readAt xs k=xs.getD k 0:=by simp[readAt,d]
 rw[d,er]at RD
 generalize xs.getD k 0=x at *
 have UN:∀W,_:=fun W=>unpacked_any x hx.2 W
 generalize ok x=o at *
 generalize uS x=s at *
 generalize uF x=f at *
 generalize uC x=c at *
 generalize uH x=g at *
 generalize uP x=p at *
 generalize uM x=m at *
 clear er
 go_enter Tryz.func146,Tryz.ntmps146
 go_wp2_with fail
 generalize (w.alloc (Obj.cells #[.int .i64 0,.int .i64 0,.int .i64 0,.int .i64 0,.bool false,.bool false] 39))=X at *
 refine RD.mono ?_
 rintro e w1 ⟨rfl,b1⟩
 have s1:=b1.size
 have T1:=headAt_below T0 b1
 have B1:=B0.trans (b1.mono (by omega))
 clear b1 RD T0 B0
 go_wp2_with fail
 refine (UN _).mono ?_
 clear UN
 rintro e w2 ⟨rfl,b2⟩
 have s2:=b2.size
 have T2:=headAt_alloc (headAt_below T1 b2) (hb s f c g p m)
 have B2:=(B1.trans (b2.mono (by omega))).alloc (by omega) (hb s f c g p m)
 have N2:=headAt_new w2 s f c g p m
 clear b2 T1 B1
 have ne:w.heap.size≠w2.heap.size:=by omega
 go_wp2_with fail
 generalize hY:w2.alloc (Obj.cells #[.int .i64 s,.int .i64 f,.int .i64 c,.int .i64 g,.bool p,.bool m] 39)=Y at *
 clear hY
 have T2:HeadAt Y w.heap.size 0 0 0 0 false false:=T2
 have N2:HeadAt Y w2.heap.size s f c g p m:=N2
 have B2:Below w.heap.size w Y:=B2
 obtain⟨t0,t1,t2,t3,t4,t5,tf⟩:=headAt_cells T2
 have f0:=tf 0;have f1:=tf 1;have f2:=tf 2;have f3:=tf 3;have f4:=tf 4;have f5:=tf 5
 obtain⟨n0,n1,n2,n3,n4,n5,nf⟩:=headAt_cells N2
 have T3:Hid _:=headAt_drew (six_set T2 s f c g p m)
 have B3:Hid _:=(six_below B2 (Nat.le_refl _) s f c g p m).drew
 clear tf nf N2 B2 T2
 cases o
 ·go_region
  all_goals go_wp2
  all_goals exact bodyPost_ret (v:=.tuple #[hv s f c g p m,.bool false]) (res_head_one rfl rfl rfl T3) rfl ⟨rfl,B3⟩
 ·go_region
  all_goals go_wp2
  all_goals exact bodyPost_ret (v:=.tuple #[hv s f c g p m,.bool (!m)]) (res_head_one rfl rfl rfl T3) rfl ⟨rfl,B3⟩
def csOk (n:Int):Bool:=decide (2≤n∧n % 2=0)
theorem chunkSizeOk_any (n:Int) (w:World) (hn:I64 n) :
    Calls Tryz.prog 154 #[.int .i64 n] w fun e w'=>e = .returned (.bool (csOk n))∧w'=w:=by
 unfold I64 at hn
 by_cases h1:n ≥ 2
 ·by_cases h2:n % 2=0
  ·have e:csOk n=true:=by simp[csOk,h2];omega
   go_enter Tryz.func154,Tryz.ntmps154
   go_wp2
   go_ret
   exact⟨by simp[e],rfl⟩
  ·have e:csOk n=false:=by simp[csOk,h2]
   go_enter Tryz.func154,Tryz.ntmps154
   go_wp2
   go_ret
   exact⟨by simp[e,h2],rfl⟩
 ·have e:csOk n=false:=by simp[csOk];omega
  go_enter Tryz.func154,Tryz.ntmps154
  go_wp2
  go_ret
  exact⟨rfl,rfl⟩
def sbOf (xs:List Int) (k:Nat) (s f:Int):Int:=if f=6 then (if csOk (readAt xs ((k:Int)+1))=true then readAt xs ((k:Int)+1) else 0) else sz s
theorem readAt_I {xs:List Int} (h:AllI xs) (i:Int):I64 (readAt xs i):=by
 unfold readAt
 split
 ·rename_i d
  simp only[okAt,Bool.and_eq_true]at d
  have:=atOk_true d.2
  exact allI_at h (by omega)
 ·exact⟨by decide,by decide⟩
theorem sizeBy_any {w:World} {v:Value} {xs:List Int} (h:IntsAt w v xs) (hl:xs.length≤1048576) (ha:AllI xs) (k:Nat) (hk:k≤1048576) (s f c g:Int) (p m:Bool) :
    Calls Tryz.prog 147 #[v,.int .i64 k,hv s f c g p m] w fun e w'=>e = .returned (.int .i64 (sbOf xs k s f))∧Below w.heap.size w w':=by
 have B0:Below w.heap.size w (w.alloc (hb s f c g p m)):=(Below.refl _ _).alloc (Nat.le_refl _) _
 have s0:w.heap.size≤(w.alloc (hb s f c g p m)).heap.size:=by simp
 have RD:=implReadAt _ v xs ((k:Int)+1) (intsAt_below h B0) hl ⟨by omega,by omega⟩
 have IY:=readAt_I ha ((k:Int)+1)
 by_cases h6:f=6
 ·have e:sbOf xs k s f=if csOk (readAt xs ((k:Int)+1))=true then readAt xs ((k:Int)+1) else 0:=by simp[sbOf,h6]
  rw[e]
  generalize readAt xs ((k:Int)+1)=y at *
  generalize okAt xs ((k:Int)+1)=o at *
  have CS:∀W,_:=fun W=>chunkSizeOk_any y W IY
  subst h6
  clear e ha
  cases d:csOk y
  ·have E:(if false=true then y else 0)=0:=rfl
   rw[E]
   clear E
   go_enter Tryz.func147,Tryz.ntmps147
   go_wp2_with fail
   generalize (w.alloc (Obj.cells #[.int .i64 s,.int .i64 6,.int .i64 c,.int .i64 g,.bool p,.bool m] 39))=X at *
   refine RD.mono ?_
   rintro e w1 ⟨rfl,b1⟩
   have B1:Hid _:=B0.trans (b1.mono s0)
   clear b1 RD B0
   go_wp2_with (go_at_call 154;refine (CS _).mono ?_;rintro e w2 ⟨rfl,rfl⟩)
   go_ret
   exact⟨rfl,B1⟩
  ·have E:(if true=true then y else 0)=y:=rfl
   rw[E]
   clear E
   go_enter Tryz.func147,Tryz.ntmps147
   go_wp2_with fail
   generalize (w.alloc (Obj.cells #[.int .i64 s,.int .i64 6,.int .i64 c,.int .i64 g,.bool p,.bool m] 39))=X at *
   refine RD.mono ?_
   rintro e w1 ⟨rfl,b1⟩
   have B1:Hid _:=B0.trans (b1.mono s0)
   clear b1 RD B0
   go_wp2_with (go_at_call 154;refine (CS _).mono ?_;rintro e w2 ⟨rfl,rfl⟩)
   go_ret
   exact⟨rfl,B1⟩
 ·have e:sbOf xs k s f=sz s:=by simp[sbOf,h6]
  rw[e]
  clear RD e
  go_enter Tryz.func147,Tryz.ntmps147
  go_wp2_with (go_at_call 153;refine (sizeOf_any _ _).mono ?_;rintro e w2 ⟨rfl,rfl⟩)
  go_ret
  exact⟨rfl,B0⟩
end Go.Proofs.YtemlagfaaibenaaGreat.walks
