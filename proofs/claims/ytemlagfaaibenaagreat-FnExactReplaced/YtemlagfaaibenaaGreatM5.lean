/-
  Marks written into a heap, and found again. How much a heap holds; two heaps that are the same. Chapter 8 as lists: a free chunk written, what is freed, the places of free chunks. Chapter 8 as lists: free chunks one right behind the other are one. Chapter 15 as lists: what is coalesced may be walked
-/
import Derived.Test.YtemlagfaaibenaaGreatM4
import Derived.Test.YtemlagfaaibenaaGreatM2
import Derived.Test.YtemlagfaaibenaaGreatWalkD
import Derived.Test.YtemlagfaaibenaaGreatM3
namespace Go.Proofs.YtemlagfaaibenaaGreat.hp
open Go.RowKit rows heads words walks
set_option maxRecDepth 100000
set_option linter.unusedVariables false
def Marked (w:World) (vr vo vm vs:Value) (k0 kE:Nat):Prop:=∃n1 n2 n3 n4:Nat,n1+n2+n3+n4≤1048576∧(IntsAt w vr (marks k0 n1)∧IntsAt w vo (marks (k0+n1:Nat) n2)∧IntsAt w vm (marks (k0+n1+n2:Nat) n3)∧IntsAt w vs (marks (k0+n1+n2+n3:Nat) n4))∧kE=k0+n1+n2+n3+n4
theorem marked_below {w w':World} {vr vo vm vs:Value} {k0 kE:Nat} (h:Marked w vr vo vm vs k0 kE) (hb:Below w.heap.size w w'):Marked w' vr vo vm vs k0 kE:=by
 obtain⟨n1,n2,n3,n4,h0,⟨h1,h2,h3,h4⟩,h5⟩:=h
 exact⟨n1,n2,n3,n4,h0,⟨intsAt_below h1 hb,intsAt_below h2 hb,intsAt_below h3 hb,intsAt_below h4 hb⟩,h5⟩
theorem markInt64S_at {w:World} {base:Nat} {v:Value} {xs:List Int} (h:rows.Own w base v xs) (hl:xs.length≤1048576) (k0:Nat) (hk:k0≤1048577) :
    Calls Tryz.prog 36 #[v,.int .i64 (k0:Int)] w fun e w'=>e = .returned (.int .i64 ((k0+xs.length:Nat):Int))∧rows.Own w' base v (marks k0 xs.length)∧Ch (blk v) w w':=
 (markInt64S_any h hl k0 (by omega) (by omega)).mono fun _ _ ⟨a,b,c⟩=>⟨by rw[a,Int.natCast_add],b,ch_grown c⟩
theorem heldInt64S_at {w:World} {v:Value} {n:Nat} (k0:Nat) (h:IntsAt w v (marks k0 n)) (hl:n≤1048576) (hk:k0≤1048577) :
    Calls Tryz.prog 37 #[v,.int .i64 (k0:Int)] w fun e w'=>e = .returned (.int .i64 ((k0+n:Nat):Int))∧w'=w:=
 (heldInt64S_any k0 h hl (by omega) (by omega)).mono fun _ _ ⟨a,b⟩=>⟨by rw[a,Int.natCast_add],b⟩
set_option maxHeartbeats 4000000 in
theorem markHeap_any {w:World} {base:Nat} {vr vo vm vs:Value} {H:Hp} (h:OwnH w base vr vo vm vs H) (hs:hpSize H≤1048576) :
    Calls Tryz.prog 16 #[hpv H vr vo vm vs,.int .i64 1] w fun e w'=>∃kE:Nat,e = .returned (.int .i64 (kE:Int))∧kE≤1048577∧Marked w' vr vo vm vs 1 kE∧Ch (hblk vr vo vm vs) w w':=by
 obtain⟨l1,l2,l3,l4⟩:=hp_parts hs
 have hsum:H.row.length+H.roots.length+H.mourned.length+H.seen.length≤1048576:=hs
 obtain⟨⟨ap1,ap2,ap3⟩,⟨ap4,ap5⟩,ap6⟩:=hblk_apart h.2
 have LT:=ownH_lt h
 obtain⟨i1,i2,i3,i4⟩:= @in_hblk vr vo vm vs
 obtain⟨a1,c1,a2,c2,a3,c3,a4,c4,e1,e2,e3,e4⟩:=hpAt_slices (ownH_at h)
 subst e1 e2 e3 e4
 have B:Below w.heap.size w (w.alloc (hpb H (.slice a1 H.row.length c1) (.slice a2 H.roots.length c2) (.slice a3 H.mourned.length c3) (.slice a4 H.seen.length c4))):=(Below.refl _ w).alloc (Nat.le_refl _) _
 have T:=nine_mk w 27 (.int .i64 H.half) (.int .i64 H.old) (.slice a1 H.row.length c1) (.int .i64 H.side) (.int .i64 H.top) (.slice a2 H.roots.length c2) (.slice a3 H.mourned.length c3) (.slice a4 H.seen.length c4) (.int .i64 H.seed)
 obtain⟨⟨O1,O2,O3,O4⟩,_⟩:=ownH_below h B
 have M1:=markInt64S_at O1 l1 1 (by decide)
 rw[show ((1:Nat):Int)=1 from rfl]at M1
 have HT:Hid _:=T
 have HC0:Hid (Ch (hblk (.slice a1 H.row.length c1) (.slice a2 H.roots.length c2) (.slice a3 H.mourned.length c3) (.slice a4 H.seen.length c4)) w (w.alloc (hpb H (.slice a1 H.row.length c1) (.slice a2 H.roots.length c2) (.slice a3 H.mourned.length c3) (.slice a4 H.seen.length c4)))):=ch_below B
 have HO2:Hid _:=O2
 have HO3:Hid _:=O3
 have HO4:Hid _:=O4
 have HA:Hid _:=And.intro ap1 (And.intro ap2 (And.intro ap3 (And.intro ap4 (And.intro ap5 ap6))))
 have HLT:Hid _:=LT
 have HI:Hid _:=And.intro i1 (And.intro i2 (And.intro i3 i4))
 clear B T O1 O2 O3 O4 h LT ap1 ap2 ap3 ap4 ap5 ap6 i1 i2 i3 i4 hs
 obtain⟨N1,hN1⟩:∃N1:Nat,1+H.row.length=N1:=⟨_,rfl⟩
 obtain⟨N2,hN2⟩:∃N2:Nat,N1+H.roots.length=N2:=⟨_,rfl⟩
 obtain⟨N3,hN3⟩:∃N3:Nat,N2+H.mourned.length=N3:=⟨_,rfl⟩
 obtain⟨N4,hN4⟩:∃N4:Nat,N3+H.seen.length=N4:=⟨_,rfl⟩
 rw[hN1]at M1
 have b1:N1≤1048577:=by omega
 have b2:N2≤1048577:=by omega
 have b3:N3≤1048577:=by omega
 have HBE:Hid (N4≤1048577):=by show N4≤1048577;omega
 have HN:Hid _:=And.intro hN1 (And.intro hN2 (And.intro hN3 hN4))
 clear hN1 hN2 hN3 hN4
 go_enter Tryz.func16,Tryz.ntmps16
 go_wp2_with fail
 generalize (w.alloc (hpb H (.slice a1 H.row.length c1) (.slice a2 H.roots.length c2) (.slice a3 H.mourned.length c3) (.slice a4 H.seen.length c4)))=X at *
 refine M1.mono ?_
 rintro e w2 ⟨rfl,P1,C2⟩
 have U:=nine_ch HT.out C2 (fun e=>by have:=(HLT.out _ (HI.out.1 _ e)).2;omega)
 have O2:rows.Own w2 _ _ _:=row_ch HO2.out C2 (fun k hk e=>HA.out.1 k e hk)
 have O3:rows.Own w2 _ _ _:=row_ch HO3.out C2 (fun k hk e=>HA.out.2.1 k e hk)
 have O4:rows.Own w2 _ _ _:=row_ch HO4.out C2 (fun k hk e=>HA.out.2.2.1 k e hk)
 have D:=HC0.out.trans (C2.mono HI.out.1)
 clear M1 C2 HT HO2 HO3 HO4 HC0
 have M2:=markInt64S_at O2 l2 N1 b1
 rw[HN.out.2.1]at M2
 obtain⟨⟨k0,k1,k2,k3,k4⟩,⟨k5,k6,k7,k8⟩,_⟩:=nine_cells U
 have HT:Hid _:=U
 have HP1:Hid _:=P1
 have HO3:Hid _:=O3
 have HO4:Hid _:=O4
 have HC0:Hid _:=D
 clear U P1 O2 O3 O4 D
 go_wp2_with fail
 refine M2.mono ?_
 rintro e w3 ⟨rfl,P2,C2⟩
 have U:=nine_ch HT.out C2 (fun e=>by have:=(HLT.out _ (HI.out.2.1 _ e)).2;omega)
 have P1:rows.Own w3 _ _ _:=row_ch HP1.out C2 (fun k hk=>HA.out.1 k hk)
 have O3:rows.Own w3 _ _ _:=row_ch HO3.out C2 (fun k hk e=>HA.out.2.2.2.1 k e hk)
 have O4:rows.Own w3 _ _ _:=row_ch HO4.out C2 (fun k hk e=>HA.out.2.2.2.2.1 k e hk)
 have D:=HC0.out.trans (C2.mono HI.out.2.1)
 clear M2 C2 HT HP1 HO3 HO4 HC0 k0 k1 k2 k3 k4 k5 k6 k7 k8
 have M3:=markInt64S_at O3 l3 N2 b2
 rw[HN.out.2.2.1]at M3
 obtain⟨⟨k0,k1,k2,k3,k4⟩,⟨k5,k6,k7,k8⟩,_⟩:=nine_cells U
 have HT:Hid _:=U
 have HP1:Hid _:=P1
 have HP2:Hid _:=P2
 have HO4:Hid _:=O4
 have HC0:Hid _:=D
 clear U P1 P2 O3 O4 D
 go_wp2_with fail
 refine M3.mono ?_
 rintro e w4 ⟨rfl,P3,C2⟩
 have U:=nine_ch HT.out C2 (fun e=>by have:=(HLT.out _ (HI.out.2.2.1 _ e)).2;omega)
 have P1:rows.Own w4 _ _ _:=row_ch HP1.out C2 (fun k hk=>HA.out.2.1 k hk)
 have P2:rows.Own w4 _ _ _:=row_ch HP2.out C2 (fun k hk=>HA.out.2.2.2.1 k hk)
 have O4:rows.Own w4 _ _ _:=row_ch HO4.out C2 (fun k hk e=>HA.out.2.2.2.2.2 k e hk)
 have D:=HC0.out.trans (C2.mono HI.out.2.2.1)
 clear M3 C2 HT HP1 HP2 HO4 HC0 k0 k1 k2 k3 k4 k5 k6 k7 k8
 have M4:=markInt64S_at O4 l4 N3 b3
 rw[HN.out.2.2.2]at M4
 obtain⟨⟨k0,k1,k2,k3,k4⟩,⟨k5,k6,k7,k8⟩,_⟩:=nine_cells U
 have HP1:Hid _:=P1
 have HP2:Hid _:=P2
 have HP3:Hid _:=P3
 have HC0:Hid _:=D
 clear U P1 P2 P3 O4 D
 go_wp2_with fail
 refine M4.mono ?_
 rintro e w5 ⟨rfl,P4,C2⟩
 have P1:rows.Own w5 _ _ _:=row_ch HP1.out C2 (fun k hk=>HA.out.2.2.1 k hk)
 have P2:rows.Own w5 _ _ _:=row_ch HP2.out C2 (fun k hk=>HA.out.2.2.2.2.1 k hk)
 have P3:rows.Own w5 _ _ _:=row_ch HP3.out C2 (fun k hk=>HA.out.2.2.2.2.2 k hk)
 have D:=HC0.out.trans (C2.mono HI.out.2.2.2)
 have MK:Marked w5 (.slice a1 H.row.length c1) (.slice a2 H.roots.length c2) (.slice a3 H.mourned.length c3) (.slice a4 H.seen.length c4) 1 N4:=by
  obtain⟨n1,n2,n3,n4⟩:=HN.out
  refine⟨H.row.length,H.roots.length,H.mourned.length,H.seen.length,hsum,⟨own_ints P1,?_,?_,?_⟩,by omega⟩
  ·rw[n1];exact own_ints P2
  ·rw[n1,n2];exact own_ints P3
  ·rw[n1,n2,n3];exact own_ints P4
 have HMK:Hid _:=MK
 have HD:Hid _:=D
 clear M4 C2 P1 P2 P3 P4 D MK HP1 HP2 HP3 HC0 HA HI HLT HN
 go_wp2
 go_ret
 exact⟨N4,rfl,HBE.out,HMK.out,HD.out⟩
set_option maxHeartbeats 2000000 in
theorem heldHeap_any {w:World} {vr vo vm vs:Value} {H:Hp} {kE:Nat} (h:Marked w vr vo vm vs 1 kE) :
    Calls Tryz.prog 17 #[hpv H vr vo vm vs,.int .i64 1] w fun e w'=>e = .returned (.int .i64 (kE:Int))∧Below w.heap.size w w':=by
 obtain⟨n1,n2,n3,n4,hsz,⟨h1,h2,h3,h4⟩,hE⟩:=h
 obtain⟨a1,m1,c1,e1⟩:=ints_slice h1
 obtain⟨a2,m2,c2,e2⟩:=ints_slice h2
 obtain⟨a3,m3,c3,e3⟩:=ints_slice h3
 obtain⟨a4,m4,c4,e4⟩:=ints_slice h4
 subst e1 e2 e3 e4
 have B:Below w.heap.size w (w.alloc (hpb H (.slice a1 m1 c1) (.slice a2 m2 c2) (.slice a3 m3 c3) (.slice a4 m4 c4))):=(Below.refl _ w).alloc (Nat.le_refl _) _
 have H1:=heldInt64S_at 1 (intsAt_below h1 B) (by omega) (by omega)
 have H2:=heldInt64S_at (1+n1) (intsAt_below h2 B) (by omega) (by omega)
 have H3:=heldInt64S_at (1+n1+n2) (intsAt_below h3 B) (by omega) (by omega)
 have H4:=heldInt64S_at (1+n1+n2+n3) (intsAt_below h4 B) (by omega) (by omega)
 rw[←hE]at H4
 rw[show ((1:Nat):Int)=1 from rfl]at H1
 obtain⟨N1,hN1⟩:∃N1:Nat,1+n1=N1:=⟨_,rfl⟩
 rw[hN1]at H1 H2 H3 H4
 obtain⟨N2,hN2⟩:∃N2:Nat,N1+n2=N2:=⟨_,rfl⟩
 rw[hN2]at H2 H3 H4
 obtain⟨N3,hN3⟩:∃N3:Nat,N2+n3=N3:=⟨_,rfl⟩
 rw[hN3]at H3 H4
 have p1:¬(N1:Int)<0:=by omega
 have p2:¬(N2:Int)<0:=by omega
 have p3:¬(N3:Int)<0:=by omega
 have p4:¬(kE:Int)<0:=by omega
 have HB:Hid _:=B
 obtain⟨⟨k0,k1,k2,k3,k4⟩,⟨k5,k6,k7,k8⟩,_⟩:=nine_cells (nine_mk w 27 (.int .i64 H.half) (.int .i64 H.old) (.slice a1 m1 c1) (.int .i64 H.side) (.int .i64 H.top) (.slice a2 m2 c2) (.slice a3 m3 c3) (.slice a4 m4 c4) (.int .i64 H.seed))
 clear B h1 h2 h3 h4 hE hN1 hN2 hN3 hsz
 go_enter Tryz.func17,Tryz.ntmps17
 go_wp2_with (first
  |(have hh:=H1;clear hh;go_at_call 37;refine H1.mono ?_;rintro e w3 ⟨rfl,hw3⟩;rw[hw3];clear hw3 w3 H1)
  |(have hh:=H2;clear hh;go_at_call 37;refine H2.mono ?_;rintro e w3 ⟨rfl,hw3⟩;rw[hw3];clear hw3 w3 H2)
  |(have hh:=H3;clear hh;go_at_call 37;refine H3.mono ?_;rintro e w3 ⟨rfl,hw3⟩;rw[hw3];clear hw3 w3 H3)
  |(have hh:=H4;clear hh;go_at_call 37;refine H4.mono ?_;rintro e w3 ⟨rfl,hw3⟩;rw[hw3];clear hw3 w3 H4))
 go_ret
 exact⟨rfl,HB⟩
set_option maxHeartbeats 2000000 in
theorem szInt64S_any {w:World} {v:Value} {xs:List Int} (h:IntsAt w v xs) (left:Nat) (hl:left≤1048576) :
    Calls Tryz.prog 20 #[v,.int .i64 left] w fun e w'=>e = .returned (.int .i64 (if xs.length≤left then (left:Int)-xs.length else -1))∧w'=w:=by
 obtain⟨a,cap,rfl,hlc,hcm,_,_⟩:=h
 have hm:xs.length≤9223372036854775807:=by unfold maxLen at hcm;omega
 by_cases d:xs.length≤left
 ·rw[if_pos d]
  have d1:¬(left:Int)-(xs.length:Int)<0:=by omega
  go_enter Tryz.func20,Tryz.ntmps20
  go_wp2
  go_ret
  exact⟨by first|rfl|go_num,rfl⟩
 ·rw[if_neg d]
  have d1:(left:Int)-(xs.length:Int)<0:=by omega
  go_enter Tryz.func20,Tryz.ntmps20
  go_wp2
  go_ret
  exact⟨by first|rfl|go_num,rfl⟩
set_option maxHeartbeats 4000000 in
theorem szHeap_any {w:World} {vr vo vm vs:Value} {H:Hp} (h:HpAt w vr vo vm vs H) (left:Nat) (hleft:left≤1048576) :
    Calls Tryz.prog 7 #[hpv H vr vo vm vs,.int .i64 left] w fun e w'=>e = .returned (.int .i64 (if hpSize H≤left then (left:Int)-hpSize H else -1))∧Below w.heap.size w w':=by
 obtain⟨a1,c1,a2,c2,a3,c3,a4,c4,e1,e2,e3,e4⟩:=hpAt_slices h
 subst e1 e2 e3 e4
 have B:Below w.heap.size w (w.alloc (.cells #[.int .i64 H.half,.int .i64 H.old,.slice a1 H.row.length c1,.int .i64 H.side,.int .i64 H.top,.slice a2 H.roots.length c2,.slice a3 H.mourned.length c3,.slice a4 H.seen.length c4,.int .i64 H.seed] 24)):=(Below.refl _ w).alloc (Nat.le_refl _) _
 obtain⟨⟨k0,k1,k2,k3,k4⟩,⟨k5,k6,k7,k8⟩,_⟩:=nine_cells (nine_mk w 24 (.int .i64 H.half) (.int .i64 H.old) (.slice a1 H.row.length c1) (.int .i64 H.side) (.int .i64 H.top) (.slice a2 H.roots.length c2) (.slice a3 H.mourned.length c3) (.slice a4 H.seen.length c4) (.int .i64 H.seed))
 obtain⟨h1,h2,h3,h4⟩:=hpAt_below h B
 obtain⟨RV,hRV⟩:∃RV:Int,(if hpSize H≤left then (left:Int)-hpSize H else -1)=RV:=⟨_,rfl⟩
 rw[hRV]
 have HRV:Hid _:=hRV
 have HB:Hid _:=B
 have S1:=szInt64S_any h1 left hleft
 clear B hRV h h1
 by_cases d1:H.row.length≤left
 case neg=>
  rw[if_neg d1]at S1
  have ER:Hid (RV = -1):=by show RV=_;rw[←HRV.out,if_neg (by unfold hpSize;omega)]
  clear HRV h2 h3 h4
  go_enter Tryz.func7,Tryz.ntmps7
  go_wp2_with (go_at_call 20;refine S1.mono ?_;clear S1;rintro e w3 ⟨rfl,hw3⟩;rw[hw3];clear hw3 w3)
  go_ret
  exact⟨by rw[ER.out];rfl,HB⟩
 rw[if_pos d1]at S1
 obtain⟨l1,hl1⟩:∃l1:Nat,(left:Int)-(H.row.length:Int)=(l1:Int):=⟨left-H.row.length,by omega⟩
 rw[hl1]at S1
 have p1:¬(l1:Int)<0:=by omega
 have S2:=szInt64S_any h2 l1 (by omega)
 clear h2
 by_cases d2:H.roots.length≤l1
 case neg=>
  rw[if_neg d2]at S2
  have ER:Hid (RV = -1):=by show RV=_;rw[←HRV.out,if_neg (by unfold hpSize;omega)]
  clear HRV h3 h4 hl1
  go_enter Tryz.func7,Tryz.ntmps7
  go_wp2_with (first
   |(have hh:=S1;clear hh;go_at_call 20;refine S1.mono ?_;clear S1;rintro e w3 ⟨rfl,hw3⟩;rw[hw3];clear hw3 w3)
   |(have hh:=S2;clear hh;go_at_call 20;refine S2.mono ?_;clear S2;rintro e w3 ⟨rfl,hw3⟩;rw[hw3];clear hw3 w3))
  go_ret
  exact⟨by rw[ER.out];rfl,HB⟩
 rw[if_pos d2]at S2
 obtain⟨l2,hl2⟩:∃l2:Nat,(l1:Int)-(H.roots.length:Int)=(l2:Int):=⟨l1-H.roots.length,by omega⟩
 rw[hl2]at S2
 have p2:¬(l2:Int)<0:=by omega
 have S3:=szInt64S_any h3 l2 (by omega)
 clear h3
 by_cases d3:H.mourned.length≤l2
 case neg=>
  rw[if_neg d3]at S3
  have ER:Hid (RV = -1):=by show RV=_;rw[←HRV.out,if_neg (by unfold hpSize;omega)]
  clear HRV h4 hl1 hl2
  go_enter Tryz.func7,Tryz.ntmps7
  go_wp2_with (first
   |(have hh:=S1;clear hh;go_at_call 20;refine S1.mono ?_;clear S1;rintro e w3 ⟨rfl,hw3⟩;rw[hw3];clear hw3 w3)
   |(have hh:=S2;clear hh;go_at_call 20;refine S2.mono ?_;clear S2;rintro e w3 ⟨rfl,hw3⟩;rw[hw3];clear hw3 w3)
   |(have hh:=S3;clear hh;go_at_call 20;refine S3.mono ?_;clear S3;rintro e w3 ⟨rfl,hw3⟩;rw[hw3];clear hw3 w3))
  go_ret
  exact⟨by rw[ER.out];rfl,HB⟩
 rw[if_pos d3]at S3
 obtain⟨l3,hl3⟩:∃l3:Nat,(l2:Int)-(H.mourned.length:Int)=(l3:Int):=⟨l2-H.mourned.length,by omega⟩
 rw[hl3]at S3
 have p3:¬(l3:Int)<0:=by omega
 have S4:=szInt64S_any h4 l3 (by omega)
 clear h4
 by_cases d4:H.seen.length≤l3
 ·rw[if_pos d4]at S4
  obtain⟨l4,hl4⟩:∃l4:Nat,(l3:Int)-(H.seen.length:Int)=(l4:Int):=⟨l3-H.seen.length,by omega⟩
  rw[hl4]at S4
  have p4:¬(l4:Int)<0:=by omega
  have ER:Hid (RV=(l4:Int)):=by show RV=_;rw[←HRV.out,if_pos (by unfold hpSize;omega)];unfold hpSize;omega
  clear HRV hl1 hl2 hl3 hl4
  go_enter Tryz.func7,Tryz.ntmps7
  go_wp2_with (first
   |(have hh:=S1;clear hh;go_at_call 20;refine S1.mono ?_;clear S1;rintro e w3 ⟨rfl,hw3⟩;rw[hw3];clear hw3 w3)
   |(have hh:=S2;clear hh;go_at_call 20;refine S2.mono ?_;clear S2;rintro e w3 ⟨rfl,hw3⟩;rw[hw3];clear hw3 w3)
   |(have hh:=S3;clear hh;go_at_call 20;refine S3.mono ?_;clear S3;rintro e w3 ⟨rfl,hw3⟩;rw[hw3];clear hw3 w3)
   |(have hh:=S4;clear hh;go_at_call 20;refine S4.mono ?_;clear S4;rintro e w3 ⟨rfl,hw3⟩;rw[hw3];clear hw3 w3))
  go_ret
  exact⟨by rw[ER.out];rfl,HB⟩
 ·rw[if_neg d4]at S4
  have ER:Hid (RV = -1):=by show RV=_;rw[←HRV.out,if_neg (by unfold hpSize;omega)]
  clear HRV hl1 hl2 hl3
  go_enter Tryz.func7,Tryz.ntmps7
  go_wp2_with (first
   |(have hh:=S1;clear hh;go_at_call 20;refine S1.mono ?_;clear S1;rintro e w3 ⟨rfl,hw3⟩;rw[hw3];clear hw3 w3)
   |(have hh:=S2;clear hh;go_at_call 20;refine S2.mono ?_;clear S2;rintro e w3 ⟨rfl,hw3⟩;rw[hw3];clear hw3 w3)
   |(have hh:=S3;clear hh;go_at_call 20;refine S3.mono ?_;clear S3;rintro e w3 ⟨rfl,hw3⟩;rw[hw3];clear hw3 w3)
   |(have hh:=S4;clear hh;go_at_call 20;refine S4.mono ?_;clear S4;rintro e w3 ⟨rfl,hw3⟩;rw[hw3];clear hw3 w3))
  go_ret
  exact⟨by rw[ER.out];rfl,HB⟩
set_option maxHeartbeats 4000000 in
theorem eqHeap_same {w:World} {vr vo vm vs ur uo um us:Value} {H:Hp} (h:HpAt w vr vo vm vs H) (h':HpAt w ur uo um us H) (hs:hpSize H≤1048576) :
    Calls Tryz.prog 11 #[hpv H vr vo vm vs,hpv H ur uo um us] w fun e w'=>e = .returned (.bool true)∧Below w.heap.size w w':=by
 obtain⟨l1,l2,l3,l4⟩:=hp_parts hs
 have B:Below w.heap.size w ((w.alloc (hpb H vr vo vm vs)).alloc (hpb H ur uo um us)):=((Below.refl _ w).alloc (Nat.le_refl _) _).alloc (by simp) _
 have T1:Nine ((w.alloc (hpb H vr vo vm vs)).alloc (hpb H ur uo um us)) w.heap.size 27 (.int .i64 H.half) (.int .i64 H.old) vr (.int .i64 H.side) (.int .i64 H.top) vo vm vs (.int .i64 H.seed):=nine_below (nine_mk w _ _ _ _ _ _ _ _ _ _) ((Below.refl _ _).alloc (Nat.le_refl _) _)
 have T2:Nine ((w.alloc (hpb H vr vo vm vs)).alloc (hpb H ur uo um us)) (w.heap.size+1) 27 (.int .i64 H.half) (.int .i64 H.old) ur (.int .i64 H.side) (.int .i64 H.top) uo um us (.int .i64 H.seed):=by
  have:=nine_mk (w.alloc (hpb H vr vo vm vs)) 27 (.int .i64 H.half) (.int .i64 H.old) ur (.int .i64 H.side) (.int .i64 H.top) uo um us (.int .i64 H.seed)
  simpa using this
 have A1:=hpAt_below h B
 have A2:=hpAt_below h' B
 obtain⟨a1,c1,a2,c2,a3,c3,a4,c4,e1,e2,e3,e4⟩:=hpAt_slices h
 obtain⟨b1,d1,b2,d2,b3,d3,b4,d4,f1,f2,f3,f4⟩:=hpAt_slices h'
 subst e1 e2 e3 e4 f1 f2 f3 f4
 have i1:(H.half != H.half)=false:=by simp
 have i2:(H.old != H.old)=false:=by simp
 have i3:(H.side != H.side)=false:=by simp
 have i4:(H.top != H.top)=false:=by simp
 have i5:(H.seed != H.seed)=false:=by simp
 have E1:=eqInt64S_any A1.1 A2.1 l1
 have E2:=fun n=>eqInt64S_any (intsAt_drewN (n:=n) A1.2.1) (intsAt_drewN (n:=n) A2.2.1) l2
 have E3:=fun n=>eqInt64S_any (intsAt_drewN (n:=n) A1.2.2.1) (intsAt_drewN (n:=n) A2.2.2.1) l3
 have E4:=fun n=>eqInt64S_any (intsAt_drewN (n:=n) A1.2.2.2) (intsAt_drewN (n:=n) A2.2.2.2) l4
 rw[decide_eq_true (rfl:H.row=H.row)]at E1
 simp only[decide_true]at E2 E3 E4
 obtain⟨⟨k0,k1,k2,k3,k4⟩,⟨k5,k6,k7,k8⟩,_⟩:=nine_cells T1
 obtain⟨⟨j0,j1,j2,j3,j4⟩,⟨j5,j6,j7,j8⟩,_⟩:=nine_cells T2
 have HB:Hid _:=B
 clear B h h' T1 T2 A1 A2
 go_enter Tryz.func11,Tryz.ntmps11
 go_wp2_with fail
 generalize hX:((w.alloc (hpb H (.slice a1 H.row.length c1) (.slice a2 H.roots.length c2) (.slice a3 H.mourned.length c3) (.slice a4 H.seen.length c4))).alloc (hpb H (.slice b1 H.row.length d1) (.slice b2 H.roots.length d2) (.slice b3 H.mourned.length d3) (.slice b4 H.seen.length d4)))=X at *
 clear hX
 refine E1.mono ?_
 clear E1
 rintro e w3 ⟨rfl,n1,hw3⟩
 rw[hw3]
 clear hw3 w3
 go_wp2_with (first
  |(have hh:=E2;clear hh;go_at_call 24;refine (E2 _).mono ?_;clear E2;rintro e w3 ⟨rfl,n2,hw3⟩;rw[hw3];clear hw3 w3)
  |(have hh:=E3;clear hh;go_at_call 24;refine (E3 _).mono ?_;clear E3;rintro e w3 ⟨rfl,n3,hw3⟩;rw[hw3];clear hw3 w3)
  |(have hh:=E4;clear hh;go_at_call 24;refine (E4 _).mono ?_;clear E4;rintro e w3 ⟨rfl,n4,hw3⟩;rw[hw3];clear hw3 w3))
 go_ret
 exact⟨rfl,⟨HB.out.os,HB.out.tape,HB.out.output,HB.out.size,HB.out.block⟩⟩
end Go.Proofs.YtemlagfaaibenaaGreat.hp
namespace Go.Proofs.YtemlagfaaibenaaGreat.walks
open Go.RowKit rows heads words
theorem walkL_mem (xs:List Int) (t:Nat) (_ht:t≤xs.length):∀(n k:Nat) (l:List Int),walkL xs t n k=some l→∀x ∈ l,∃j:Nat,x=j∧k≤j∧j<t∧chunk xs j≠0:=by
 intro n
 induction n with
 |zero=>
  intro k l h
  unfold walkL at h
  split at h
  ·cases h
  ·cases h;simp
 |succ n ih=>
  intro k l h
  by_cases h1:k<t
  ·by_cases hb:chunk xs k=0∨(k:Int)+chunk xs k > t
   ·rw[walkL_bad _ _ _ _ h1 hb]at h;cases h
   ·rw[walkL_step _ _ _ _ h1 hb]at h
    obtain⟨l',hl',rfl⟩:=Option.map_eq_some_iff.1 h
    intro x hx
    rcases List.mem_cons.1 hx with rfl|hx
    ·exact⟨k,rfl,Nat.le_refl _,h1,fun e=>hb (.inl e)⟩
    ·obtain⟨j,a,b,c,d⟩:=ih _ _ hl' x hx
     exact⟨j,a,by omega,c,d⟩
  ·rw[walkL_end _ _ _ _ h1]at h
   cases h;simp
theorem walked_mem {xs:List Int} {f t:Int} {x:Int} (h:x ∈ walked xs f t):∃j:Nat,x=j∧j<xs.length∧rowOk xs=true∧chunk xs j≠0:=by
 unfold walked walkR at h
 split at h
 ·rename_i hr
  simp only[rangeOk,Bool.and_eq_true,decide_eq_true_eq]at hr
  cases e:walkO xs f.toNat t.toNat with
  |none=>rw[e]at h;simp at h
  |some l=>
   rw[e]at h
   obtain⟨j,a,_,c,d⟩:=walkL_mem xs t.toNat (by omega) _ _ _ e x (by simpa using h)
   exact⟨j,a,by omega,hr.1,d⟩
 ·simp at h
theorem walkL_congr {xs ys:List Int} (t:Nat):∀(n k:Nat) (l:List Int),walkL xs t n k=some l→(∀p ∈ l,chunk ys p.toNat=chunk xs p.toNat)→walkL ys t n k=some l:=by
 intro n
 induction n with
 |zero=>intro k l h _;unfold walkL at h ⊢; exact h
 |succ n ih=>
  intro k l h hc
  by_cases h1:k<t
  ·by_cases hb:chunk xs k=0∨(k:Int)+chunk xs k > t
   ·rw[walkL_bad _ _ _ _ h1 hb]at h;cases h
   ·rw[walkL_step _ _ _ _ h1 hb]at h
    obtain⟨l',hl',rfl⟩:=Option.map_eq_some_iff.1 h
    have e:chunk ys k=chunk xs k:=by
     have:=hc (k:Int) (by simp)
     rwa [Int.toNat_natCast]at this
    rw[walkL_step _ _ _ _ h1 (by rw[e];exact hb),e,ih _ _ hl' (fun p hp=>hc p (by simp[hp]))]
    rfl
  ·rw[walkL_end _ _ _ _ h1]at h ⊢
   exact h
theorem walkO_congr {xs ys:List Int} {f t:Nat} {l:List Int} (h:walkO xs f t=some l) (hc:∀p ∈ l,chunk ys p.toNat=chunk xs p.toNat):walkO ys f t=some l:=walkL_congr t _ _ _ h hc
end Go.Proofs.YtemlagfaaibenaaGreat.walks
