/- How much a heap holds; two heaps that ar -/
import Derived.Test.YtocidankimefpaaGreatDoorM9
set_option linter.unusedVariables false
set_option maxRecDepth 100000
namespace Go.Proofs.YtocidankimefpaaGreatDoor.hp
open Go.RowKit rows heads words walks
set_option maxHeartbeats 2000000 in
theorem iD {w:World} {v:Value} {xs:List Int} (h:au w v xs) (left:Nat) (hl:left≤1048576) :
    Calls Tryz.prog 14 #[v,.int .i64 left] w fun e w'=>e = .returned (.int .i64 (if xs.length≤left then (left:Int)-xs.length else -1))∧w'=w:=by
 obtain⟨a,cap,rfl,hlc,hcm,_,_⟩:=h;have hm:xs.length≤9223372036854775807:=by unfold maxLen at hcm;omega
 by_cases d:xs.length≤left
 ·rw[if_pos d];have d1:¬(left:Int)-(xs.length:Int)<0:=by omega
  go_enter Tryz.func14,Tryz.ntmps14;go_wp2;go_ret;exact⟨by first|rfl|go_num,rfl⟩
 ·rw[if_neg d];have d1:(left:Int)-(xs.length:Int)<0:=by omega
  go_enter Tryz.func14,Tryz.ntmps14;go_wp2;go_ret;exact⟨by first|rfl|go_num,rfl⟩
set_option maxHeartbeats 4000000 in
theorem AQ {w:World} {vr vo vm vs:Value} {H:Hp} (h:eW w vr vo vm vs H) (left:Nat) (hleft:left≤1048576) :
    Calls Tryz.prog 5 #[hpv H vr vo vm vs,.int .i64 left] w fun e w'=>e = .returned (.int .i64 (if bI H≤left then (left:Int)-bI H else -1))∧Below w.heap.size w w':=by
 obtain⟨a1,c1,a2,c2,a3,c3,a4,c4,e1,e2,e3,e4⟩:=aK h;subst e1 e2 e3 e4;have B:Below w.heap.size w (w.alloc (.cells #[.int .i64 H.half,.int .i64 H.old,.slice a1 H.row.length c1,.int .i64 H.side,.int .i64 H.top,.slice a2 H.roots.length c2,.slice a3 H.a7.length c3,.slice a4 H.seen.length c4,.int .i64 H.seed] 24)):=(Below.refl _ w).alloc (Nat.le_refl _) _;obtain⟨⟨k0,k1,k2,k3,k4⟩,⟨k5,k6,k7,k8⟩,_⟩:=ag (fS w 24 (.int .i64 H.half) (.int .i64 H.old) (.slice a1 H.row.length c1) (.int .i64 H.side) (.int .i64 H.top) (.slice a2 H.roots.length c2) (.slice a3 H.a7.length c3) (.slice a4 H.seen.length c4) (.int .i64 H.seed));obtain⟨h1,h2,h3,h4⟩:=aD h B;obtain⟨RV,hRV⟩:∃RV:Int,(if bI H≤left then (left:Int)-bI H else -1)=RV:=⟨_,rfl⟩
 rw[hRV];have HRV:Hid _:=hRV;have HB:Hid _:=B;have S1:=iD h1 left hleft;clear B hRV h h1;by_cases d1:H.row.length≤left
 case neg=>
  rw[if_neg d1]at S1;have ER:Hid (RV = -1):=by show RV=_;rw[←HRV.out,if_neg (by unfold bI;omega)]
  clear HRV h2 h3 h4;go_enter Tryz.func5,Tryz.ntmps5;go_wp2_with (go_at_call 14;refine S1.mono ?_;clear S1;rintro e w3 ⟨rfl,hw3⟩;rw[hw3];clear hw3 w3);go_ret;exact⟨by rw[ER.out];rfl,HB⟩
 rw[if_pos d1]at S1;obtain⟨l1,hl1⟩:∃l1:Nat,(left:Int)-(H.row.length:Int)=(l1:Int):=⟨left-H.row.length,by omega⟩
 rw[hl1]at S1;have p1:¬(l1:Int)<0:=by omega
 have S2:=iD h2 l1 (by omega);clear h2;by_cases d2:H.roots.length≤l1
 case neg=>
  rw[if_neg d2]at S2;have ER:Hid (RV = -1):=by show RV=_;rw[←HRV.out,if_neg (by unfold bI;omega)]
  clear HRV h3 h4 hl1;go_enter Tryz.func5,Tryz.ntmps5
  go_wp2_with (first
   |(have hh:=S1;clear hh;go_at_call 14;refine S1.mono ?_;clear S1;rintro e w3 ⟨rfl,hw3⟩;rw[hw3];clear hw3 w3)
   |(have hh:=S2;clear hh;go_at_call 14;refine S2.mono ?_;clear S2;rintro e w3 ⟨rfl,hw3⟩;rw[hw3];clear hw3 w3))
  go_ret;exact⟨by rw[ER.out];rfl,HB⟩
 rw[if_pos d2]at S2;obtain⟨l2,hl2⟩:∃l2:Nat,(l1:Int)-(H.roots.length:Int)=(l2:Int):=⟨l1-H.roots.length,by omega⟩
 rw[hl2]at S2;have p2:¬(l2:Int)<0:=by omega
 have S3:=iD h3 l2 (by omega);clear h3;by_cases d3:H.a7.length≤l2
 case neg=>
  rw[if_neg d3]at S3;have ER:Hid (RV = -1):=by show RV=_;rw[←HRV.out,if_neg (by unfold bI;omega)]
  clear HRV h4 hl1 hl2;go_enter Tryz.func5,Tryz.ntmps5
  go_wp2_with (first
   |(have hh:=S1;clear hh;go_at_call 14;refine S1.mono ?_;clear S1;rintro e w3 ⟨rfl,hw3⟩;rw[hw3];clear hw3 w3)
   |(have hh:=S2;clear hh;go_at_call 14;refine S2.mono ?_;clear S2;rintro e w3 ⟨rfl,hw3⟩;rw[hw3];clear hw3 w3)
   |(have hh:=S3;clear hh;go_at_call 14;refine S3.mono ?_;clear S3;rintro e w3 ⟨rfl,hw3⟩;rw[hw3];clear hw3 w3))
  go_ret;exact⟨by rw[ER.out];rfl,HB⟩
 rw[if_pos d3]at S3;obtain⟨l3,hl3⟩:∃l3:Nat,(l2:Int)-(H.a7.length:Int)=(l3:Int):=⟨l2-H.a7.length,by omega⟩
 rw[hl3]at S3;have p3:¬(l3:Int)<0:=by omega
 have S4:=iD h4 l3 (by omega);clear h4;by_cases d4:H.seen.length≤l3
 ·rw[if_pos d4]at S4;obtain⟨l4,hl4⟩:∃l4:Nat,(l3:Int)-(H.seen.length:Int)=(l4:Int):=⟨l3-H.seen.length,by omega⟩
  rw[hl4]at S4;have p4:¬(l4:Int)<0:=by omega
  have ER:Hid (RV=(l4:Int)):=by show RV=_;rw[←HRV.out,if_pos (by unfold bI;omega)];unfold bI;omega
  clear HRV hl1 hl2 hl3 hl4;go_enter Tryz.func5,Tryz.ntmps5
  go_wp2_with (first
   |(have hh:=S1;clear hh;go_at_call 14;refine S1.mono ?_;clear S1;rintro e w3 ⟨rfl,hw3⟩;rw[hw3];clear hw3 w3)
   |(have hh:=S2;clear hh;go_at_call 14;refine S2.mono ?_;clear S2;rintro e w3 ⟨rfl,hw3⟩;rw[hw3];clear hw3 w3)
   |(have hh:=S3;clear hh;go_at_call 14;refine S3.mono ?_;clear S3;rintro e w3 ⟨rfl,hw3⟩;rw[hw3];clear hw3 w3)
   |(have hh:=S4;clear hh;go_at_call 14;refine S4.mono ?_;clear S4;rintro e w3 ⟨rfl,hw3⟩;rw[hw3];clear hw3 w3))
  go_ret;exact⟨by rw[ER.out];rfl,HB⟩
 ·rw[if_neg d4]at S4;have ER:Hid (RV = -1):=by show RV=_;rw[←HRV.out,if_neg (by unfold bI;omega)]
  clear HRV hl1 hl2 hl3;go_enter Tryz.func5,Tryz.ntmps5
  go_wp2_with (first
   |(have hh:=S1;clear hh;go_at_call 14;refine S1.mono ?_;clear S1;rintro e w3 ⟨rfl,hw3⟩;rw[hw3];clear hw3 w3)
   |(have hh:=S2;clear hh;go_at_call 14;refine S2.mono ?_;clear S2;rintro e w3 ⟨rfl,hw3⟩;rw[hw3];clear hw3 w3)
   |(have hh:=S3;clear hh;go_at_call 14;refine S3.mono ?_;clear S3;rintro e w3 ⟨rfl,hw3⟩;rw[hw3];clear hw3 w3)
   |(have hh:=S4;clear hh;go_at_call 14;refine S4.mono ?_;clear S4;rintro e w3 ⟨rfl,hw3⟩;rw[hw3];clear hw3 w3))
  go_ret;exact⟨by rw[ER.out];rfl,HB⟩
set_option maxHeartbeats 4000000 in
theorem jw {w:World} {vr vo vm vs ur uo um us:Value} {H:Hp} (h:eW w vr vo vm vs H) (h':eW w ur uo um us H) (hs:bI H≤1048576) :
    Calls Tryz.prog 9 #[hpv H vr vo vm vs,hpv H ur uo um us] w fun e w'=>e = .returned (.bool true)∧Below w.heap.size w w':=by
 obtain⟨l1,l2,l3,l4⟩:=pD hs;have B:Below w.heap.size w ((w.alloc (hpb H vr vo vm vs)).alloc (hpb H ur uo um us)):=((Below.refl _ w).alloc (Nat.le_refl _) _).alloc (by simp) _;have T1:eJ ((w.alloc (hpb H vr vo vm vs)).alloc (hpb H ur uo um us)) w.heap.size 26 (.int .i64 H.half) (.int .i64 H.old) vr (.int .i64 H.side) (.int .i64 H.top) vo vm vs (.int .i64 H.seed):=ai (fS w _ _ _ _ _ _ _ _ _ _) ((Below.refl _ _).alloc (Nat.le_refl _) _)
 have T2:eJ ((w.alloc (hpb H vr vo vm vs)).alloc (hpb H ur uo um us)) (w.heap.size+1) 26 (.int .i64 H.half) (.int .i64 H.old) ur (.int .i64 H.side) (.int .i64 H.top) uo um us (.int .i64 H.seed):=by
  have:=fS (w.alloc (hpb H vr vo vm vs)) 26 (.int .i64 H.half) (.int .i64 H.old) ur (.int .i64 H.side) (.int .i64 H.top) uo um us (.int .i64 H.seed)
  simpa using this
 have A1:=aD h B;have A2:=aD h' B;obtain⟨a1,c1,a2,c2,a3,c3,a4,c4,e1,e2,e3,e4⟩:=aK h;obtain⟨b1,d1,b2,d2,b3,d3,b4,d4,f1,f2,f3,f4⟩:=aK h';subst e1 e2 e3 e4 f1 f2 f3 f4;have i1:(H.half != H.half)=false:=by simp
 have i2:(H.old != H.old)=false:=by simp
 have i3:(H.side != H.side)=false:=by simp
 have i4:(H.top != H.top)=false:=by simp
 have i5:(H.seed != H.seed)=false:=by simp
 have E1:=iu A1.1 A2.1 l1;have E2:=fun n=>iu (fb (n:=n) A1.2.1) (fb (n:=n) A2.2.1) l2
 have E3:=fun n=>iu (fb (n:=n) A1.2.2.1) (fb (n:=n) A2.2.2.1) l3
 have E4:=fun n=>iu (fb (n:=n) A1.2.2.2) (fb (n:=n) A2.2.2.2) l4
 rw[decide_eq_true (rfl:H.row=H.row)]at E1;simp only[decide_true]at E2 E3 E4;obtain⟨⟨k0,k1,k2,k3,k4⟩,⟨k5,k6,k7,k8⟩,_⟩:=ag T1;obtain⟨⟨j0,j1,j2,j3,j4⟩,⟨j5,j6,j7,j8⟩,_⟩:=ag T2;have HB:Hid _:=B;clear B h h' T1 T2 A1 A2;go_enter Tryz.func9,Tryz.ntmps9;go_wp2_with fail;generalize hX:((w.alloc (hpb H (.slice a1 H.row.length c1) (.slice a2 H.roots.length c2) (.slice a3 H.a7.length c3) (.slice a4 H.seen.length c4))).alloc (hpb H (.slice b1 H.row.length d1) (.slice b2 H.roots.length d2) (.slice b3 H.a7.length d3) (.slice b4 H.seen.length d4)))=X at *;clear hX;refine E1.mono ?_;clear E1;rintro e w3 ⟨rfl,n1,hw3⟩;rw[hw3];clear hw3 w3
 go_wp2_with (first
  |(have hh:=E2;clear hh;go_at_call 27;refine (E2 _).mono ?_;clear E2;rintro e w3 ⟨rfl,n2,hw3⟩;rw[hw3];clear hw3 w3)
  |(have hh:=E3;clear hh;go_at_call 27;refine (E3 _).mono ?_;clear E3;rintro e w3 ⟨rfl,n3,hw3⟩;rw[hw3];clear hw3 w3)
  |(have hh:=E4;clear hh;go_at_call 27;refine (E4 _).mono ?_;clear E4;rintro e w3 ⟨rfl,n4,hw3⟩;rw[hw3];clear hw3 w3))
 go_ret;exact⟨rfl,⟨HB.out.os,HB.out.tape,HB.out.output,HB.out.size,HB.out.block⟩⟩
set_option maxHeartbeats 4000000 in
theorem fC {w:World} {v:Value} {xs:List Int} (h:au w v xs) (hl:xs.length≤1048576) (n:Int) :
    Calls Tryz.prog 61 #[v,.int .i64 n] w fun e w'=>e = .returned (.bool (decide (n ∈ xs)))∧w'=w:=by
 obtain⟨a,cap,rfl,hlc,hcm,_,hc⟩:=h;have HC:Hid _:=hc;obtain⟨RV,hRV⟩:∃RV,decide (n ∈ xs)=RV:=⟨_,rfl⟩
 rw[hRV];have HRV:Hid _:=hRV;clear hc hRV;go_enter Tryz.func61,Tryz.ntmps61;go_wp2_with fail;go_loopw [5] (fun p wr=>∃k:Nat,k≤xs.length∧p = .int .i64 k∧(∀j,j<k→¬xs.getD j 0=n)∧wr=w) (fun p _=>xs.length-(intOf p).toNat);case atStart=>exact⟨0,Nat.zero_le _,rfl,fun j hj=>by omega,rfl⟩
 case round=>
  obtain⟨k,hk,rfl,hne,hw⟩:=hrel;subst hw;by_cases hlt:k<xs.length
  ·obtain⟨b,off,rfl,hb,hcc⟩:=HC.out (by omega);have c0:=hcc k hlt
   have hget:xs.getD k 0 ∈ xs:=by
    rw[List.getD_eq_getElem?_getD,List.getElem?_eq_getElem hlt];exact List.getElem_mem hlt
   by_cases hy:xs.getD k 0=n
   ·have HV:Hid (RV=true):=by show _=_;rw[←HRV.out,decide_eq_true_eq,←hy];exact hget
    have hy':(xs.getD k 0==n)=true:=by simpa using hy
    clear hcc HC hne hget hy;generalize xs.getD k 0=y at *;go_wp2;go_ret;exact⟨by rw[HV.out];rfl,rfl⟩
   ·have HV:Hid (∀j,j<k+1→¬xs.getD j 0=n):=fun j hj=>by
      by_cases e:j=k
      ·rw[e];exact hy
      ·exact hne j (by omega)
    have hy':(xs.getD k 0==n)=false:=by simpa using hy
    clear hcc HC hne hget hy;generalize xs.getD k 0=y at *;go_wp2;exact⟨⟨k+1,by omega,by go_num,HV,by trivial⟩,by simp[intOf];omega⟩
  ·have HV:Hid (RV=false):=by
     show _=_
     rw[←HRV.out,decide_eq_false_iff_not];intro hm;obtain⟨i,hi,e⟩:=List.getElem_of_mem hm;refine hne i (by omega) ?_;rw[List.getD_eq_getElem?_getD,List.getElem?_eq_getElem hi];exact e
   clear HC hne HRV;go_wp2;go_ret;exact⟨by rw[HV.out];rfl,rfl⟩
def aP (H:Hp) (ps:List Int) (x:Int):Bool:=isW x&&(!(isA x) || (decide (av x ∈ ps) && !(uF (H.row.getD (av x).toNat 0)==6)))
set_option maxHeartbeats 4000000 in
theorem oj {w:World} {vr vo vm vs vp:Value} {H:Hp} (h:eW w vr vo vm vs H) {ps:List Int} (hp:au w vp ps) (hpl:ps.length≤1048576) (hP:Plc H ps) (x:Int) :
    Calls Tryz.prog 85 #[hpv H vr vo vm vs,vp,.int .i64 x] w fun e w'=>e = .returned (.bool (aP H ps x))∧Below w.heap.size w w':=by
 obtain⟨a1,c1,a2,c2,a3,c3,a4,c4,e1,e2,e3,e4⟩:=aK h;subst e1 e2 e3 e4;have hp':=hp;obtain⟨ap,cp,rfl,_,_,_,_⟩:=hp;have B0:Below w.heap.size w (w.alloc (hpb H (.slice a1 H.row.length c1) (.slice a2 H.roots.length c2) (.slice a3 H.a7.length c3) (.slice a4 H.seen.length c4))):=(Below.refl _ _).alloc (Nat.le_refl _) _;obtain⟨⟨z0,z1,z2,z3,z4⟩,⟨z5,z6,z7,z8⟩,_⟩:=ag (de w H (.slice a1 H.row.length c1) (.slice a2 H.roots.length c2) (.slice a3 H.a7.length c3) (.slice a4 H.seen.length c4));have HB0:Hid _:=B0;have LH:=fC (w:=w.alloc (hpb H (.slice a1 H.row.length c1) (.slice a2 H.roots.length c2) (.slice a3 H.a7.length c3) (.slice a4 H.seen.length c4))) (aa hp' B0) hpl (av x);unfold aP;cases dW:isW x
 ·rw[Bool.false_and];clear LH;go_enter Tryz.func85,Tryz.ntmps85;go_wp2_with (go_at_call 139;refine (jx _ _).mono ?_;rintro e w3 ⟨rfl,hw3⟩;rw[hw3,dW];clear hw3 w3);go_ret;exact⟨rfl,HB0.out⟩
 ·rw[Bool.true_and];cases dA:isA x
  ·clear LH;go_enter Tryz.func85,Tryz.ntmps85;go_wp2_with (first|(go_at_call 139;refine (jx _ _).mono ?_;rintro e w3 ⟨rfl,hw3⟩;rw[hw3,dW];clear hw3 w3)|(go_at_call 87;refine (dG _ _).mono ?_;rintro e w3 ⟨rfl,hw3⟩;rw[hw3,dA];clear hw3 w3));go_ret;exact⟨rfl,HB0.out⟩
  ·cases dM:decide (av x ∈ ps)
   ·rw[dM]at LH;rw[Bool.false_and,Bool.or_false,Bool.not_true];go_enter Tryz.func85,Tryz.ntmps85;go_wp2_with (first|(go_at_call 139;refine (jx _ _).mono ?_;rintro e w3 ⟨rfl,hw3⟩;rw[hw3,dW];clear hw3 w3)|(go_at_call 87;refine (dG _ _).mono ?_;rintro e w3 ⟨rfl,hw3⟩;rw[hw3,dA];clear hw3 w3)|(go_at_call 61;refine LH.mono ?_;clear LH;rintro e w3 ⟨rfl,hw3⟩;rw[hw3];clear hw3 w3));go_ret;exact⟨rfl,HB0.out⟩
   ·rw[dM]at LH;rw[Bool.true_and,Bool.not_true,Bool.false_or];obtain⟨j,hj,hjl⟩:=hP _ (of_decide_eq_true dM);have L4:=eD (aa h.1 B0) j hjl;rw[hj,Int.toNat_natCast];unfold hw at L4;have SA:=dG x;rw[hj]at LH SA;generalize uF (H.row.getD j 0)=f at *;generalize uS (H.row.getD j 0)=s at *;generalize uC (H.row.getD j 0)=c at *;generalize uH (H.row.getD j 0)=g at *;generalize uP (H.row.getD j 0)=p at *;generalize uM (H.row.getD j 0)=m at *;have FF:=jW s f c g p m;have hb:(f != 6) = !(f==6):=rfl;clear B0 dM h hp';go_enter Tryz.func85,Tryz.ntmps85;go_wp2_with (first|(go_at_call 139;refine (jx _ _).mono ?_;rintro e w3 ⟨rfl,hw3⟩;rw[hw3,dW];clear hw3 w3)|(go_at_call 87;refine (SA _).mono ?_;clear SA;rintro e w3 ⟨rfl,hw3⟩;rw[hw3,dA];clear hw3 w3)|(go_at_call 61;refine LH.mono ?_;clear LH;rintro e w3 ⟨rfl,hw3⟩;rw[hw3];clear hw3 w3)|(go_at_call 45;refine L4.mono ?_;clear L4;rintro e w3 ⟨rfl,b3⟩;have HB3:Hid _:=HB0.out.trans (b3.mono HB0.out.size);clear b3));go_ret;exact⟨by rw[←hb];rfl,HB3.out⟩
def eR (H:Hp) (x:Int):Bool:=isA x&&decide (av x<2*H.half)
theorem F8 (x:Int) (h:isA x=true):0≤av x∧av x≤999:=by
 have e:av x=x / 4-1:=by unfold av;simp[h]
 simp only[isA,Bool.and_eq_true,decide_eq_true_eq]at h;omega
set_option maxHeartbeats 2000000 in
theorem yt {w:World} {vr vo vm vs:Value} {H:Hp} (h:eW w vr vo vm vs H) (h0 : -1000≤H.half∧H.half≤1000) (x:Int) :
    Calls Tryz.prog 89 #[hpv H vr vo vm vs,.int .i64 x] w fun e w'=>e = .returned (.bool (eR H x))∧Below w.heap.size w w':=by
 obtain⟨a1,c1,a2,c2,a3,c3,a4,c4,e1,e2,e3,e4⟩:=aK h;subst e1 e2 e3 e4;have HB0:Hid (Below w.heap.size w (w.alloc (hpb H (.slice a1 H.row.length c1) (.slice a2 H.roots.length c2) (.slice a3 H.a7.length c3) (.slice a4 H.seen.length c4)))):=(Below.refl _ _).alloc (Nat.le_refl _) _;obtain⟨⟨z0,z1,z2,z3,z4⟩,⟨z5,z6,z7,z8⟩,_⟩:=ag (de w H (.slice a1 H.row.length c1) (.slice a2 H.roots.length c2) (.slice a3 H.a7.length c3) (.slice a4 H.seen.length c4));unfold eR;have SA:=dG x;cases dA:isA x
 ·rw[dA]at SA;rw[Bool.false_and];clear h;go_enter Tryz.func89,Tryz.ntmps89;go_wp2_with (go_at_call 87;refine (SA _).mono ?_;clear SA;rintro e w3 ⟨rfl,hw3⟩;rw[hw3];clear hw3 w3);go_ret;exact⟨rfl,HB0.out⟩
 ·rw[dA]at SA;rw[Bool.true_and];have hs:=F8 x dA;generalize av x=a at *;clear h dA;go_enter Tryz.func89,Tryz.ntmps89;go_wp2_with (go_at_call 87;refine (SA _).mono ?_;clear SA;rintro e w3 ⟨rfl,hw3⟩;rw[hw3];clear hw3 w3);go_ret;exact⟨rfl,HB0.out⟩
def endsL (H:Hp):Nat→Int→Bool
 |0,_=>false
 |n+1,p=>if uF (H.row.getD p.toNat 0)=7 then endsL H n (av (H.row.getD (p.toNat+1) 0)) else true
def uv (H:Hp) (ps:List Int):Prop:=∀p ∈ ps,uF (H.row.getD p.toNat 0)=7→p.toNat+1<H.row.length∧isA (H.row.getD (p.toNat+1) 0)=true∧av (H.row.getD (p.toNat+1) 0) ∈ ps
set_option maxHeartbeats 4000000 in
theorem AR {w:World} {vr vo vm vs:Value} {H:Hp} (h:eW w vr vo vm vs H) (hrl:H.row.length≤1048576) {ps:List Int} (hP:Plc H ps) (hN:uv H ps) (p:Int) (hp:p ∈ ps) (n:Nat) (hn:n≤1048576) :
    Calls Tryz.prog 86 #[hpv H vr vo vm vs,.int .i64 p,.int .i64 n] w fun e w'=>e = .returned (.bool (endsL H (n+1) p))∧Below w.heap.size w w':=by
 obtain⟨a1,c1,a2,c2,a3,c3,a4,c4,e1,e2,e3,e4⟩:=aK h;subst e1 e2 e3 e4;have B0:Below w.heap.size w (w.alloc (hpb H (.slice a1 H.row.length c1) (.slice a2 H.roots.length c2) (.slice a3 H.a7.length c3) (.slice a4 H.seen.length c4))):=(Below.refl _ _).alloc (Nat.le_refl _) _;have HB0:Hid _:=B0;have HT0:Hid _:=de w H (.slice a1 H.row.length c1) (.slice a2 H.roots.length c2) (.slice a3 H.a7.length c3) (.slice a4 H.seen.length c4);have HH:Hid _:=h;obtain⟨R,hR⟩:∃R,endsL H (n+1) p=R:=⟨_,rfl⟩
 rw[hR];have HR:Hid _:=hR;have HP:Hid _:=hP;have HN:Hid _:=hN;clear h B0 hR hP hN;go_enter Tryz.func86,Tryz.ntmps86;go_wp2_with fail;go_loopw [1,2] (fun u i wz=>∃(q:Int) (k:Nat),u = .int .i64 q∧i = .int .i64 ((k:Int)-1)∧k≤n+1∧q ∈ ps∧endsL H k q=R∧eJ wz w.heap.size 26 (.int .i64 H.half) (.int .i64 H.old) (.slice a1 H.row.length c1) (.int .i64 H.side) (.int .i64 H.top) (.slice a2 H.roots.length c2) (.slice a3 H.a7.length c3) (.slice a4 H.seen.length c4) (.int .i64 H.seed)∧Below w.heap.size w wz) (fun _ i _=>(intOf i+1).toNat);case atStart=>exact⟨p,n+1,rfl,by simp,Nat.le_refl _,hp,HR.out,HT0.out,HB0.out⟩
 case round=>
  obtain⟨q,k,rfl,rfl,hk,hq,hE,hT,hB⟩:=hrel;clear HT0 HB0 HR;obtain⟨j,hj,hjl⟩:=HP.out q hq;subst hj;obtain⟨⟨z0,z1,z2,z3,z4⟩,⟨z5,z6,z7,z8⟩,_⟩:=ag hT;have sr:=hB.size;cases k with
  |zero=>
   have hE':R=false:=by rw[←hE];rfl
   have HE:Hid _:=hE';have HB:Hid _:=hB;have hneg:¬((0:Nat):Int)-1 ≥ 0:=by decide
   clear hE hE' hT hB;go_wp2;go_ret;exact⟨by rw[HE.out];rfl,HB.out⟩
  |succ k=>
   have hI:=(aD HH.out hB).1;have L4:=eD hI j hjl;unfold hw at L4;have hge:((k+1:Nat):Int)-1 ≥ 0:=by omega
   have hee:endsL H (k+1) (j:Int)=if uF (H.row.getD j 0)=7 then endsL H k (av (H.row.getD (j+1) 0)) else true:=by
    simp only[endsL,Int.toNat_natCast]
   rw[hee]at hE;have hnn:=HN.out (j:Int) hq;rw[Int.toNat_natCast]at hnn;generalize uF (H.row.getD j 0)=f at *;generalize uS (H.row.getD j 0)=s at *;generalize uC (H.row.getD j 0)=c at *;generalize uH (H.row.getD j 0)=g at *;generalize uP (H.row.getD j 0)=p0 at *;generalize uM (H.row.getD j 0)=m at *;have FF:=jW s f c g p0 m;have HT:Hid _:=hT;have HB:Hid _:=hB;by_cases h7:f=7
   ·obtain⟨hj1,hA,hmem⟩:=hnn h7;subst h7;rw[if_pos rfl]at hE;obtain⟨a',c',e',_,_,_,hcc⟩:=hI;have e1:a1=a':=by injection e'
    subst e1;obtain⟨b,off,rfl,hb,hcc⟩:=hcc (by omega);have x1:=hcc (j+1) hj1;have SA:=dG (H.row.getD (j+1) 0);rw[hA]at SA;have HE:Hid _:=hE;have HM:Hid _:=hmem;generalize H.row.getD (j+1) 0=y at *;generalize av y=ay at *;have hj1':((j:Int)+1).toNat=j+1:=by omega
    have hj2:(0:Int)≤(j:Int)+1:=by omega
    have hj3:(j:Int)+1<(H.row.length:Int):=by omega
    clear hT hB hE hmem hcc e' hee hnn;go_wp2_with fail;refine L4.mono ?_;rintro e w2 ⟨rfl,b2⟩;have T2:=ai HT.out b2;have x2:=(b2.cell (p:=⟨b,off+(j+1),none⟩) hb).trans x1;obtain⟨⟨y0,y1,y2,y3,y4⟩,⟨y5,y6,y7,y8⟩,_⟩:=ag T2;have HT2:Hid _:=T2;have HB2:Hid _:=HB.out.trans (b2.mono sr);clear L4 b2 T2 z0 z1 z2 z3 z4 z5 z6 z7 z8 x1;go_wp2_with (go_at_call 87;refine (SA _).mono ?_;clear SA;rintro e w3 ⟨rfl,hw3⟩;rw[hw3];clear hw3 w3);exact⟨⟨ay,k,rfl,by go_num,by omega,HM.out,HE.out,HT2.out,HB2.out⟩,by simp[intOf]⟩
   ·have h7':(f != 7)=true:=by simp[h7]
    rw[if_neg h7]at hE;have HE:Hid (R=true):=hE.symm;clear hT hB hE hee hnn;go_wp2_with fail;refine L4.mono ?_;rintro e w2 ⟨rfl,b2⟩;have HB2:Hid _:=HB.out.trans (b2.mono sr);clear L4 b2;go_wp2;go_ret;exact⟨by rw[HE.out];rfl,HB2.out⟩
end Go.Proofs.YtocidankimefpaaGreatDoor.hp
namespace Go.Proofs.YtocidankimefpaaGreatDoor.walks
open Go.RowKit rows heads words
theorem iE {w:World} {base g:Nat} (hg:g=w.heap.size) (hb:base≤g):rows.Own (w.alloc (.cells #[] 2)) base (.slice (some ⟨g,0,none⟩) 0 0) []:=by
 subst hg;exact fR w base hb
theorem lG {ys:List Int} (h:∀q,q<ys.length→isW (ys.getD q 0)=true):ys.all isW=true:=by
 rw[List.all_eq_true];intro x hx;obtain⟨q,hq,rfl⟩:=List.mem_iff_getElem.1 hx;have:=h q hq
 rwa [List.getD_eq_getElem?_getD,List.getElem?_eq_getElem hq]at this
theorem tv (s f c h:Int) (p m:Bool) (u:Value) (w:World) :
    Calls Tryz.prog 136 #[cv s f c h p m u] w fun e w'=>e = .returned (.bool (f==6))∧w'=w.alloc (cb s f c h p m u):=by
 go_enter Tryz.func136,Tryz.ntmps136;go_wp2;go_ret;exact⟨rfl,rfl⟩
theorem wE (s f c h:Int) (p m:Bool) (b o N n:Nat) (w:World) (hN:N≤1048576) (hn:(if f=7 then 1 else s)=(n:Int)) (hle:1+n≤N) :
    Calls Tryz.prog 71 #[cv s f c h p m (.slice (some ⟨b,o,none⟩) N N)] w fun e w'=>e = .returned (piece (some ⟨b,o,none⟩) 1 n)∧Below w.heap.size w w':=by
 have B0:Below w.heap.size w ((w.alloc (cb s f c h p m (.slice (some ⟨b,o,none⟩) N N))).alloc (cb s f c h p m (.slice (some ⟨b,o,none⟩) N N))):=((Below.refl _ w).alloc (Nat.le_refl _) _).alloc (by simp) _;have HB:Hid _:=B0;clear B0;by_cases h7:f=7
 ·subst h7;have e1:n=1:=by simp at hn;omega
  subst e1;go_enter Tryz.func71,Tryz.ntmps71;go_wp2_with (go_at_call 70;refine (kx _ _ _ _ _ _ _ _).mono ?_;rintro e w1 ⟨rfl,rfl⟩);all_goals go_ret
  all_goals exact⟨by simp[piece,Addr.add],HB⟩
 ·have h7':(f==7)=false:=by simpa using h7
  rw[if_neg h7]at hn;subst hn;go_enter Tryz.func71,Tryz.ntmps71;go_wp2_with (go_at_call 70;refine (kx _ _ _ _ _ _ _ _).mono ?_;rintro e w1 ⟨rfl,rfl⟩)
  ·have e0:n=0:=by omega
   subst e0;go_ret;exact⟨by simp[piece],HB⟩
  ·go_ret;exact⟨by simp[piece,Addr.add, *],HB⟩
theorem zx {w:World} {a:Option Addr} {cap:Nat} {xs:List Int} (h:au w (.slice a xs.length cap) xs) (hl:xs.length≤1048576) (k n:Nat) (hk:k+n≤xs.length):au w (piece a k n) ((xs.drop k).take n):=by
 obtain⟨a',cap',e,hlc,hcm,hnil,hc⟩:=h;injection e with e1 e2 e3
 subst e1 e3;have el:((xs.drop k).take n).length=n:=by simp;omega
 by_cases h0:n=0
 ·subst h0;rw[iV];exact⟨a,0,by simp,by simp,by decide,fun _=>rfl,fun h=>by simp at h⟩
 ·obtain⟨b,off,rfl,hb,hcc⟩:=hc (by omega);rw[eU b off k n (by omega)];refine⟨_,n,by rw[el],by omega,by unfold maxLen;omega,fun h=>by simp at h,fun _=>⟨b,off+k,rfl,hb,fun i hi => ?_⟩⟩
  rw[el]at hi;have:=hcc (k+i) (by omega)
  rw[Nat.add_assoc,this];simp[List.getD_eq_getElem?_getD,hi]
end Go.Proofs.YtocidankimefpaaGreatDoor.walks
