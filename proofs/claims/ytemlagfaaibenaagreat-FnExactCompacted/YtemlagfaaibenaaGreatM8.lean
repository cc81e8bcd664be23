/-
  Marks written into a heap, and found again. Chapter 9 as the specification has it: a heap whose numbers are not as they must be. Chapter 9 as lists: which heaps are right. Chapter 9: a new heap; by the specification and by the program. Chapter 9: a new heap, where its numbers are right; by the speci
-/
import Derived.Test.YtemlagfaaibenaaGreatHeapT
import Derived.Test.YtemlagfaaibenaaGreatHeapS3
import Derived.Test.YtemlagfaaibenaaGreatM6
import Derived.Deep.Cut
import Derived.Deep.CutRange
import Derived.Test.YtemlagfaaibenaaGreatM5
import Derived.Test.YtemlagfaaibenaaGreatM4
import Derived.Test.YtemlagfaaibenaaGreatM3
import Derived.Deep.Upon
import Derived.Lib.Hide
import Derived.Maps.AppendAt
import Derived.Test.YtemlagfaaibenaaGreatM1
import Derived.Deep.RegionLaw
import Derived.Test.YtemlagfaaibenaaGreatWalkIWalk
namespace Go.Proofs.YtemlagfaaibenaaGreat.hp
open Go.RowKit rows heads words walks
set_option maxRecDepth 100000
set_option linter.unusedVariables false
def Marked (w:World) (vr vo vm vs:Value) (k0 kE:Nat):Prop:=∃n1 n2 n3 n4:Nat,n1+n2+n3+n4≤1048576∧(IntsAt w vr (marks k0 n1)∧IntsAt w vo (marks (k0+n1:Nat) n2)∧IntsAt w vm (marks (k0+n1+n2:Nat) n3)∧IntsAt w vs (marks (k0+n1+n2+n3:Nat) n4))∧kE=k0+n1+n2+n3+n4
theorem marked_below {w w':World} {vr vo vm vs:Value} {k0 kE:Nat} (h:Marked w vr vo vm vs k0 kE) (hb:Below w.heap.size w w'):Marked w' vr vo vm vs k0 kE:=by
 obtain⟨n1,n2,n3,n4,h0,⟨h1,h2,h3,h4⟩,h5⟩:=h
 exact⟨n1,n2,n3,n4,h0,⟨intsAt_below h1 hb,intsAt_below h2 hb,intsAt_below h3 hb,intsAt_below h4 hb⟩,h5⟩
theorem markInt64S_at {w:World} {base:Nat} {v:Value} {xs:List Int} (h:rows.Own w base v xs) (hl:xs.length≤1048576) (k0:Nat) (hk:k0≤1048577) :
    Calls Tryz.prog 36 #[v,.int .i64 (k0:Int)] w fun e w'=>e = .returned (.int .i64 ((k0+xs.length:Nat):Int))∧rows.Own w' base v (marks k0 xs.length)∧Ch (blk v) w w':=
 (markInt64S_any h hl k0 (by omega) (by omega)).mono fun _ _ ⟨a,b,c⟩=>⟨by rw[a,Int.natCast_add],b,ch_grown c⟩
theorem heldInt64S_at {w:World} {v:Value} {n:Nat} (k0:Nat) (h:IntsAt w v (marks k0 n)) (hl:n≤1048576) (hk:k0≤1048577) :
    Calls Tryz.prog 37 #[v,.int .i64 (k0:Int)] w fun e w'=>e = .returned (.int .i64 ((k0+n:Nat):Int))∧w'=w:=
 (heldInt64S_any k0 h hl (by omega) (by omega)).mono fun _ _ ⟨a,b⟩=>⟨by rw[a,Int.natCast_add],b⟩
set_option maxHeartbeats 4000000 in
theorem markHeap_any {w:World} {base:Nat} {vr vo vm vs:Value} {H:Hp} (h:OwnH w base vr vo vm vs H) (hs:hpSize H≤1048576) :
    Calls Tryz.prog 16 #[hpv H vr vo vm vs,.int .i64 1] w fun e w'=>∃kE:Nat,e = .returned (.int .i64 (kE:Int))∧kE≤1048577∧Marked w' vr vo vm vs 1 kE∧Ch (hblk vr vo vm vs) w w':=by
 obtain⟨l1,l2,l3,l4⟩:=hp_parts hs
 have hsum:H.row.length+H.roots.length+H.mourned.length+H.seen.length≤1048576:=hs
 obtain⟨⟨ap1,ap2,ap3⟩,⟨ap4,ap5⟩,ap6⟩:=hblk_apart h.2
 have LT:=ownH_lt h
 obtain⟨i1,i2,i3,i4⟩:= @in_hblk vr vo vm vs
 obtain⟨a1,c1,a2,c2,a3,c3,a4,c4,e1,e2,e3,e4⟩:=hpAt_slices (ownH_at h)
 subst e1 e2 e3 e4
 have B:Below w.heap.size w (w.alloc (hpb H (.slice a1 H.row.length c1) (.slice a2 H.roots.length c2) (.slice a3 H.mourned.length c3) (.slice a4 H.seen.length c4))):=(Below.refl _ w).alloc (Nat.le_refl _) _
 have T:=nine_mk w 27 (.int .i64 H.half) (.int .i64 H.old) (.slice a1 H.row.length c1) (.int .i64 H.side) (.int .i64 H.top) (.slice a2 H.roots.length c2) (.slice a3 H.mourned.length c3) (.slice a4 H.seen.length c4) (.int .i64 H.seed)
 obtain⟨⟨O1,O2,O3,O4⟩,_⟩:=ownH_below h B
 have M1:=markInt64S_at O1 l1 1 (by decide)
 rw[show ((1:Nat):Int)=1 from rfl]at M1
 have HT:Hid _:=T
 have HC0:Hid (Ch (hblk (.slice a1 H.row.length c1) (.slice a2 H.roots.length c2) (.slice a3 H.mourned.length c3) (.slice a4 H.seen.length c4)) w (w.alloc (hpb H (.slice a1 H.row.length c1) (.slice a2 H.roots.length c2) (.slice a3 H.mourned.length c3) (.slice a4 H.seen.length c4)))):=ch_below B
 have HO2:Hid _:=O2
 have HO3:Hid _:=O3
 have HO4:Hid _:=O4
 have HA:Hid _:=And.intro ap1 (And.intro ap2 (And.intro ap3 (And.intro ap4 (And.intro ap5 ap6))))
 have HLT:Hid _:=LT
 have HI:Hid _:=And.intro i1 (And.intro i2 (And.intro i3 i4))
 clear B T O1 O2 O3 O4 h LT ap1 ap2 ap3 ap4 ap5 ap6 i1 i2 i3 i4 hs
 obtain⟨N1,hN1⟩:∃N1:Nat,1+H.row.length=N1:=⟨_,rfl⟩
 obtain⟨N2,hN2⟩:∃N2:Nat,N1+H.roots.length=N2:=⟨_,rfl⟩
 obtain⟨N3,hN3⟩:∃N3:Nat,N2+H.mourned.length=N3:=⟨_,rfl⟩
 obtain⟨N4,hN4⟩:∃N4:Nat,N3+H.seen.length=N4:=⟨_,rfl⟩
 rw[hN1]at M1
 have b1:N1≤1048577:=by omega
 have b2:N2≤1048577:=by omega
 have b3:N3≤1048577:=by omega
 have HBE:Hid (N4≤1048577):=by show N4≤1048577;omega
 have HN:Hid _:=And.intro hN1 (And.intro hN2 (And.intro hN3 hN4))
 clear hN1 hN2 hN3 hN4
 go_enter Tryz.func16,Tryz.ntmps16
 go_wp2_with fail
 generalize (w.alloc (hpb H (.slice a1 H.row.length c1) (.slice a2 H.roots.length c2) (.slice a3 H.mourned.length c3) (.slice a4 H.seen.length c4)))=X at *
 refine M1.mono ?_
 rintro e w2 ⟨rfl,P1,C2⟩
 have U:=nine_ch HT.out C2 (fun e=>by have:=(HLT.out _ (HI.out.1 _ e)).2;omega)
 have O2:rows.Own w2 _ _ _:=row_ch HO2.out C2 (fun k hk e=>HA.out.1 k e hk)
 have O3:rows.Own w2 _ _ _:=row_ch HO3.out C2 (fun k hk e=>HA.out.2.1 k e hk)
 have O4:rows.Own w2 _ _ _:=row_ch HO4.out C2 (fun k hk e=>HA.out.2.2.1 k e hk)
 have D:=HC0.out.trans (C2.mono HI.out.1)
 clear M1 C2 HT HO2 HO3 HO4 HC0
 have M2:=markInt64S_at O2 l2 N1 b1
 rw[HN.out.2.1]at M2
 obtain⟨⟨k0,k1,k2,k3,k4⟩,⟨k5,k6,k7,k8⟩,_⟩:=nine_cells U
 have HT:Hid _:=U
 have HP1:Hid _:=P1
 have HO3:Hid _:=O3
 have HO4:Hid _:=O4
 have HC0:Hid _:=D
 clear U P1 O2 O3 O4 D
 go_wp2_with fail
 refine M2.mono ?_
 rintro e w3 ⟨rfl,P2,C2⟩
 have U:=nine_ch HT.out C2 (fun e=>by have:=(HLT.out _ (HI.out.2.1 _ e)).2;omega)
 have P1:rows.Own w3 _ _ _:=row_ch HP1.out C2 (fun k hk=>HA.out.1 k hk)
 have O3:rows.Own w3 _ _ _:=row_ch HO3.out C2 (fun k hk e=>HA.out.2.2.2.1 k e hk)
 have O4:rows.Own w3 _ _ _:=row_ch HO4.out C2 (fun k hk e=>HA.out.2.2.2.2.1 k e hk)
 have D:=HC0.out.trans (C2.mono HI.out.2.1)
 clear M2 C2 HT HP1 HO3 HO4 HC0 k0 k1 k2 k3 k4 k5 k6 k7 k8
 have M3:=markInt64S_at O3 l3 N2 b2
 rw[HN.out.2.2.1]at M3
 obtain⟨⟨k0,k1,k2,k3,k4⟩,⟨k5,k6,k7,k8⟩,_⟩:=nine_cells U
 have HT:Hid _:=U
 have HP1:Hid _:=P1
 have HP2:Hid _:=P2
 have HO4:Hid _:=O4
 have HC0:Hid _:=D
 clear U P1 P2 O3 O4 D
 go_wp2_with fail
 refine M3.mono ?_
 rintro e w4 ⟨rfl,P3,C2⟩
 have U:=nine_ch HT.out C2 (fun e=>by have:=(HLT.out _ (HI.out.2.2.1 _ e)).2;omega)
 have P1:rows.Own w4 _ _ _:=row_ch HP1.out C2 (fun k hk=>HA.out.2.1 k hk)
 have P2:rows.Own w4 _ _ _:=row_ch HP2.out C2 (fun k hk=>HA.out.2.2.2.1 k hk)
 have O4:rows.Own w4 _ _ _:=row_ch HO4.out C2 (fun k hk e=>HA.out.2.2.2.2.2 k e hk)
 have D:=HC0.out.trans (C2.mono HI.out.2.2.1)
 clear M3 C2 HT HP1 HP2 HO4 HC0 k0 k1 k2 k3 k4 k5 k6 k7 k8
 have M4:=markInt64S_at O4 l4 N3 b3
 rw[HN.out.2.2.2]at M4
 obtain⟨⟨k0,k1,k2,k3,k4⟩,⟨k5,k6,k7,k8⟩,_⟩:=nine_cells U
 have HP1:Hid _:=P1
 have HP2:Hid _:=P2
 have HP3:Hid _:=P3
 have HC0:Hid _:=D
 clear U P1 P2 P3 O4 D
 go_wp2_with fail
 refine M4.mono ?_
 rintro e w5 ⟨rfl,P4,C2⟩
 have P1:rows.Own w5 _ _ _:=row_ch HP1.out C2 (fun k hk=>HA.out.2.2.1 k hk)
 have P2:rows.Own w5 _ _ _:=row_ch HP2.out C2 (fun k hk=>HA.out.2.2.2.2.1 k hk)
 have P3:rows.Own w5 _ _ _:=row_ch HP3.out C2 (fun k hk=>HA.out.2.2.2.2.2 k hk)
 have D:=HC0.out.trans (C2.mono HI.out.2.2.2)
 have MK:Marked w5 (.slice a1 H.row.length c1) (.slice a2 H.roots.length c2) (.slice a3 H.mourned.length c3) (.slice a4 H.seen.length c4) 1 N4:=by
  obtain⟨n1,n2,n3,n4⟩:=HN.out
  refine⟨H.row.length,H.roots.length,H.mourned.length,H.seen.length,hsum,⟨own_ints P1,?_,?_,?_⟩,by omega⟩
  ·rw[n1];exact own_ints P2
  ·rw[n1,n2];exact own_ints P3
  ·rw[n1,n2,n3];exact own_ints P4
 have HMK:Hid _:=MK
 have HD:Hid _:=D
 clear M4 C2 P1 P2 P3 P4 D MK HP1 HP2 HP3 HC0 HA HI HLT HN
 go_wp2
 go_ret
 exact⟨N4,rfl,HBE.out,HMK.out,HD.out⟩
set_option maxHeartbeats 2000000 in
theorem heldHeap_any {w:World} {vr vo vm vs:Value} {H:Hp} {kE:Nat} (h:Marked w vr vo vm vs 1 kE) :
    Calls Tryz.prog 17 #[hpv H vr vo vm vs,.int .i64 1] w fun e w'=>e = .returned (.int .i64 (kE:Int))∧Below w.heap.size w w':=by
 obtain⟨n1,n2,n3,n4,hsz,⟨h1,h2,h3,h4⟩,hE⟩:=h
 obtain⟨a1,m1,c1,e1⟩:=ints_slice h1
 obtain⟨a2,m2,c2,e2⟩:=ints_slice h2
 obtain⟨a3,m3,c3,e3⟩:=ints_slice h3
 obtain⟨a4,m4,c4,e4⟩:=ints_slice h4
 subst e1 e2 e3 e4
 have B:Below w.heap.size w (w.alloc (hpb H (.slice a1 m1 c1) (.slice a2 m2 c2) (.slice a3 m3 c3) (.slice a4 m4 c4))):=(Below.refl _ w).alloc (Nat.le_refl _) _
 have H1:=heldInt64S_at 1 (intsAt_below h1 B) (by omega) (by omega)
 have H2:=heldInt64S_at (1+n1) (intsAt_below h2 B) (by omega) (by omega)
 have H3:=heldInt64S_at (1+n1+n2) (intsAt_below h3 B) (by omega) (by omega)
 have H4:=heldInt64S_at (1+n1+n2+n3) (intsAt_below h4 B) (by omega) (by omega)
 rw[←hE]at H4
 rw[show ((1:Nat):Int)=1 from rfl]at H1
 obtain⟨N1,hN1⟩:∃N1:Nat,1+n1=N1:=⟨_,rfl⟩
 rw[hN1]at H1 H2 H3 H4
 obtain⟨N2,hN2⟩:∃N2:Nat,N1+n2=N2:=⟨_,rfl⟩
 rw[hN2]at H2 H3 H4
 obtain⟨N3,hN3⟩:∃N3:Nat,N2+n3=N3:=⟨_,rfl⟩
 rw[hN3]at H3 H4
 have p1:¬(N1:Int)<0:=by omega
 have p2:¬(N2:Int)<0:=by omega
 have p3:¬(N3:Int)<0:=by omega
 have p4:¬(kE:Int)<0:=by omega
 have HB:Hid _:=B
 obtain⟨⟨k0,k1,k2,k3,k4⟩,⟨k5,k6,k7,k8⟩,_⟩:=nine_cells (nine_mk w 27 (.int .i64 H.half) (.int .i64 H.old) (.slice a1 m1 c1) (.int .i64 H.side) (.int .i64 H.top) (.slice a2 m2 c2) (.slice a3 m3 c3) (.slice a4 m4 c4) (.int .i64 H.seed))
 clear B h1 h2 h3 h4 hE hN1 hN2 hN3 hsz
 go_enter Tryz.func17,Tryz.ntmps17
 go_wp2_with (first
  |(have hh:=H1;clear hh;go_at_call 37;refine H1.mono ?_;rintro e w3 ⟨rfl,hw3⟩;rw[hw3];clear hw3 w3 H1)
  |(have hh:=H2;clear hh;go_at_call 37;refine H2.mono ?_;rintro e w3 ⟨rfl,hw3⟩;rw[hw3];clear hw3 w3 H2)
  |(have hh:=H3;clear hh;go_at_call 37;refine H3.mono ?_;rintro e w3 ⟨rfl,hw3⟩;rw[hw3];clear hw3 w3 H3)
  |(have hh:=H4;clear hh;go_at_call 37;refine H4.mono ?_;rintro e w3 ⟨rfl,hw3⟩;rw[hw3];clear hw3 w3 H4))
 go_ret
 exact⟨rfl,HB⟩
end Go.Proofs.YtemlagfaaibenaaGreat.hp
namespace Go.Proofs.YtemlagfaaibenaaGreat.hp
open Go.RowKit rows heads words walks region
set_option maxRecDepth 100000
set_option linter.unusedVariables false
def hb0 (H:Hp):Bool:= !inR 8 200 H.half
def hb1 (H:Hp):Bool:=hb0 H || !inR 8 400 H.old
def hb2 (H:Hp):Bool:=hb1 H || (H.half % 2 != 0)
def hb3 (H:Hp):Bool:=hb2 H || (H.old % 2 != 0)
def hb4 (H:Hp):Bool:=hb3 H || ((H.row.length:Int) != 2*H.half+H.old)
def hb5 (H:Hp):Bool:=hb4 H || !inR 0 1 H.side
def hb6 (H:Hp):Bool:=hb5 H || !inR 0 H.half H.top
def hb7 (H:Hp):Bool:=hb6 H || ((H.roots.length:Int) != 6)
def hb8 (H:Hp):Bool:=hb7 H || decide (40<(H.mourned.length:Int))
def hbad (H:Hp):Bool:=hb8 H || !inR 0 65535 H.seed
set_option maxHeartbeats 16000000 in
theorem places_head {w:World} {vr vo vm vs:Value} {H:Hp} (h:HpAt w vr vo vm vs H) (hd:hbad H=true) :
    Calls Tryz.prog 85 #[hpv H vr vo vm vs] w fun e w'=>∃v',e = .returned (.tuple #[v',.bool false])∧rows.Own w' w.heap.size v' []∧Below w.heap.size w w':=by
 obtain⟨a1,c1,a2,c2,a3,c3,a4,c4,e1,e2,e3,e4⟩:=hpAt_slices h
 subst e1 e2 e3 e4
 have B0:Below w.heap.size w ((w.alloc (hpb H (.slice a1 H.row.length c1) (.slice a2 H.roots.length c2) (.slice a3 H.mourned.length c3) (.slice a4 H.seen.length c4))).alloc (.cells #[] 2)):=((Below.refl _ _).alloc (Nat.le_refl _) _).alloc (by simp) _
 have HB0:Hid _:=B0
 have HO0:Hid (rows.Own ((w.alloc (hpb H (.slice a1 H.row.length c1) (.slice a2 H.roots.length c2) (.slice a3 H.mourned.length c3) (.slice a4 H.seen.length c4))).alloc (.cells #[] 2)) w.heap.size (.slice (some ⟨w.heap.size+1,0,none⟩) 0 0) []):=own_nothing2 (by simp) (by omega)
 have T1:Nine ((w.alloc (hpb H (.slice a1 H.row.length c1) (.slice a2 H.roots.length c2) (.slice a3 H.mourned.length c3) (.slice a4 H.seen.length c4))).alloc (.cells #[] 2)) w.heap.size 27 (.int .i64 H.half) (.int .i64 H.old) (.slice a1 H.row.length c1) (.int .i64 H.side) (.int .i64 H.top) (.slice a2 H.roots.length c2) (.slice a3 H.mourned.length c3) (.slice a4 H.seen.length c4) (.int .i64 H.seed):=nine_below (nine_new w H _ _ _ _) ((Below.refl _ _).alloc (Nat.le_refl _) _)
 have HZ:Hid _:=nine_cells T1
 have HD:Hid _:=hd
 clear B0 T1 h hd
 go_enter Tryz.func85,Tryz.ntmps85
 go_upto_region 2 with fail
 go_cut [79] from 14 to 78 (fun v wz=>v = .bool (hbad H)∧wz=((w.alloc (hpb H (.slice a1 H.row.length c1) (.slice a2 H.roots.length c2) (.slice a3 H.mourned.length c3) (.slice a4 H.seen.length c4))).alloc (.cells #[] 2)))
 case first=>
  rename_i J K' HJ HK
  obtain⟨⟨z0,z1,z2,z3,z4⟩,⟨z5,z6,z7,z8⟩,_⟩:=HZ.out
  refine regHead (p0:=hb0 H) (p1:=hb1 H) (p2:=hb2 H) (p3:=hb3 H) (p4:=hb4 H) (p5:=hb5 H) (p6:=hb6 H) (p7:=hb7 H) (p8:=hb8 H) (p9:=hbad H) rfl ⟨_,rfl,rfl,rfl,rfl⟩ ⟨_,rfl,rfl,rfl,rfl⟩ ⟨_,rfl,rfl,rfl,rfl⟩ ⟨_,rfl,rfl,rfl,rfl⟩ ⟨_,rfl,rfl,rfl,rfl⟩ ⟨_,rfl,rfl,rfl,rfl⟩ ⟨_,rfl,rfl,rfl,rfl⟩ ⟨_,rfl,rfl,rfl,rfl⟩ ⟨_,rfl,rfl,rfl,rfl⟩ ⟨_,rfl,rfl,rfl,rfl⟩ ⟨_,rfl,rfl,rfl,rfl⟩ ⟨_,rfl,rfl,rfl,rfl⟩ ⟨_,rfl,rfl,rfl,rfl⟩ ⟨_,rfl,rfl,rfl,rfl⟩ ⟨_,rfl,rfl,rfl,rfl⟩ ⟨_,rfl,rfl,rfl,rfl⟩ ⟨_,rfl,rfl,rfl,rfl⟩ ⟨_,rfl,rfl,rfl,rfl⟩ ⟨_,rfl,rfl,rfl,rfl⟩ ⟨_,rfl,rfl,rfl,rfl⟩ ⟨_,rfl,rfl,rfl,rfl⟩ ⟨_,rfl,rfl,rfl,rfl⟩ ⟨_,rfl,rfl,rfl,rfl⟩ ⟨_,rfl,rfl,rfl,rfl⟩ ⟨_,rfl,rfl,rfl,rfl⟩ ⟨_,rfl,rfl,rfl,rfl⟩ ⟨_,rfl,rfl,rfl,rfl⟩ ⟨_,rfl,rfl,rfl,rfl⟩ ⟨_,rfl,rfl,rfl,rfl⟩ ⟨_,rfl,rfl,rfl,rfl⟩ ⟨_,rfl,rfl,rfl,rfl⟩ ⟨_,rfl,rfl,rfl,rfl⟩ ⟨_,rfl,rfl,rfl,rfl⟩ ⟨_,rfl,rfl,rfl,rfl⟩ ⟨_,rfl,rfl,rfl,rfl⟩ ⟨_,rfl,rfl,rfl,rfl⟩ ⟨_,rfl,rfl,rfl,rfl⟩ ⟨_,rfl,rfl,rfl,rfl⟩ ⟨_,rfl,rfl,rfl,rfl⟩ ⟨_,rfl,rfl,rfl,rfl⟩ ⟨_,rfl,rfl,rfl,rfl⟩ ⟨_,rfl,rfl,rfl,rfl⟩ ⟨_,rfl,rfl,rfl,rfl⟩ ⟨_,rfl,rfl,rfl,rfl⟩ ⟨_,rfl,rfl,rfl,rfl⟩ ⟨_,rfl,rfl,rfl,rfl⟩ ⟨_,rfl,rfl,rfl,rfl⟩ ⟨_,rfl,rfl,rfl,rfl⟩ ⟨_,rfl,rfl,rfl,rfl⟩ ⟨_,rfl,rfl,rfl,rfl⟩ ⟨_,rfl,rfl,rfl,rfl⟩ ⟨_,rfl,rfl,rfl,rfl⟩ ⟨_,rfl,rfl,rfl,rfl⟩ ⟨_,rfl,rfl,rfl,rfl⟩ ⟨_,rfl,rfl,rfl,rfl⟩ ⟨_,rfl,rfl,rfl,rfl⟩ ⟨_,rfl,rfl,rfl,rfl⟩ ⟨_,rfl,rfl,rfl,rfl⟩ ⟨_,rfl,rfl,rfl,rfl⟩ ⟨_,rfl,rfl,rfl,rfl⟩ ⟨_,rfl,rfl,rfl,rfl⟩ ⟨_,rfl,rfl,rfl,rfl⟩ ⟨_,rfl,rfl,rfl,rfl⟩ ⟨_,rfl,rfl,rfl,rfl⟩ ⟨_,rfl,rfl,rfl,rfl⟩ ⟨_,rfl,rfl,rfl,rfl⟩ (by simp) rfl z0 z1 z2 z3 z4 z5 z6 z8 rfl rfl rfl rfl rfl rfl rfl rfl rfl rfl ?_
  intro u hu
  exact HK _ _ (Met.intro (HJ _ _ ⟨u 14,u 15,u 16,u 17,u 18,u 19,u 20,u 21,u 22,u 23,u 24,u 25,u 26,u 27,u 28,u 29,u 30,u 31,u 32,u 33,u 34,u 35,u 36,u 37,u 38,u 39,u 40,u 41,u 42,u 43,u 44,u 45,u 46,u 47,u 48,u 49,u 50,u 51,u 52,u 53,u 54,u 55,u 56,u 57,u 58,u 59,u 60,u 61,u 62,u 63,u 64,u 65,u 66,u 67,u 68,u 69,u 70,u 71,u 72,u 73,u 74,u 75,u 76,u 77,u 78,u 79,⟨hu,rfl⟩,rfl⟩))
 obtain⟨rfl,rfl⟩:=hcut
 rw[HD.out]
 go_wp2
 go_ret2
 exact⟨_,rfl,HO0.out,HB0.out⟩
end Go.Proofs.YtemlagfaaibenaaGreat.hp
namespace Go.Proofs.YtemlagfaaibenaaGreat.hp
open Go.RowKit rows heads words walks
set_option maxRecDepth 100000
set_option linter.unusedVariables false
def hf (H:Hp):Nat:=H.half.toNat
def od (H:Hp):Nat:=H.old.toNat
def bs (H:Hp):Nat:=(H.side*H.half).toNat
def tp (H:Hp):Nat:=H.top.toNat
structure Nums (H:Hp):Prop where
 half:H.half=(hf H:Int)
 old:H.old=(od H:Int)
 base:H.side*H.half=(bs H:Int)
 top:H.top=(tp H:Int)
 half1:8≤hf H∧hf H≤200∧hf H % 2=0
 old1:8≤od H∧od H≤400∧od H % 2=0
 len:H.row.length=2*hf H+od H
 side:bs H=0∨bs H=hf H
 top1:tp H≤hf H
 roots:H.roots.length=6
 mourned:H.mourned.length≤40
 seed:0≤H.seed∧H.seed≤65535
theorem nums_of {H:Hp} (h:hbad H=false):Nums H:=by
 simp only[hbad,hb8,hb7,hb6,hb5,hb4,hb3,hb2,hb1,hb0,Bool.or_eq_false_iff,Bool.not_eq_false',inR,Bool.and_eq_true,decide_eq_true_eq,bne_eq_false_iff_eq,decide_eq_false_iff_not]at h
 obtain⟨⟨⟨⟨⟨⟨⟨⟨⟨h0,h1⟩,h2⟩,h3⟩,h4⟩,h5⟩,h6⟩,h7⟩,h8⟩,h9⟩:=h
 have e0:H.side=0∨H.side=1:=by omega
 have eb:H.side*H.half=0∨H.side*H.half=H.half:=by
  rcases e0 with e|e<;>rw[e]<;>simp
 refine⟨?_,?_,?_,?_,?_,?_,?_,?_,?_,?_,?_,h9⟩
 all_goals (try simp only[hf,od,bs,tp])
 all_goals omega
theorem Nums.room {H:Hp} (h:Nums H):bs H+tp H≤2*hf H:=by
 have:=h.side
 have:=h.top1
 omega
def zeroAt (H:Hp) (i:Nat):Bool:= !(decide (i<bs H) || decide (bs H+tp H≤i)) || (H.row.getD i 0==0)
def zeroB (H:Hp):Bool:=(List.range (2*hf H)).all (zeroAt H)
def roomW (H:Hp):Option (List Int):=walkO H.row (bs H) (bs H+tp H)
def upW (H:Hp):Option (List Int):=walkO H.row (2*hf H) (2*hf H+od H)
def roomOk (H:Hp) (p:Int):Bool:= !(uF (H.row.getD p.toNat 0)==6) && !(uP (H.row.getD p.toNat 0))
def placesB (H:Hp):Option (List Int):=
 if zeroB H=false then none else
  match roomW H,upW H with
  |some r,some u=>if r.all (roomOk H)=true then some (r++u) else none
  |_,_=>none
def placesR (H:Hp):Option (List Int):=if hbad H=true then none else placesB H
theorem placesB_zero {H:Hp} (h:zeroB H=false):placesB H=none:=by unfold placesB;rw[if_pos h]
theorem placesB_room {H:Hp} (h:roomW H=none):placesB H=none:=by
 unfold placesB
 split
 ·rfl
 ·rw[h]
theorem placesB_up {H:Hp} (h:upW H=none):placesB H=none:=by
 unfold placesB
 split
 ·rfl
 ·rw[h]
  cases roomW H<;>rfl
theorem placesB_no {H:Hp} {r:List Int} (h:roomW H=some r) (h1:r.all (roomOk H)=false):placesB H=none:=by
 unfold placesB
 split
 ·rfl
 ·rw[h]
  cases upW H with
  |none=>rfl
  |some u=>simp[h1]
theorem placesB_yes {H:Hp} {r u:List Int} (h0:zeroB H=true) (h:roomW H=some r) (h':upW H=some u) (h1:r.all (roomOk H)=true):placesB H=some (r++u):=by
 unfold placesB
 rw[if_neg (by rw[h0];decide),h,h']
 simp[h1]
theorem zeroB_false {H:Hp} {i:Nat} (hi:i<2*hf H) (h:zeroAt H i=false):zeroB H=false:=by
 unfold zeroB
 rw[List.all_eq_false]
 exact⟨i,List.mem_range.2 hi,by simp[h]⟩
theorem zeroB_true {H:Hp} (h:∀i,i<2*hf H→zeroAt H i=true):zeroB H=true:=by
 unfold zeroB
 rw[List.all_eq_true]
 exact fun i hi=>h i (List.mem_range.1 hi)
theorem all_no {xs:List Int} {f:Int→Bool} {k:Nat} (hk:k<xs.length) (h:f (xs.getD k 0)=false):xs.all f=false:=by
 rw[List.all_eq_false]
 refine⟨xs.getD k 0,?_,by rw[h];decide⟩
 rw[List.getD_eq_getElem?_getD,List.getElem?_eq_getElem hk]
 exact List.getElem_mem hk
theorem all_yes {xs:List Int} {f:Int→Bool} (h:∀j,j<xs.length→f (xs.getD j 0)=true):xs.all f=true:=by
 rw[List.all_eq_true]
 intro x hx
 obtain⟨i,hi,rfl⟩:=List.getElem_of_mem hx
 have:=h i hi
 rwa [List.getD_eq_getElem?_getD,List.getElem?_eq_getElem hi]at this
theorem all_at {xs:List Int} {f:Int→Bool} (h:xs.all f=true) {k:Nat} (hk:k<xs.length):f (xs.getD k 0)=true:=by
 rw[List.all_eq_true]at h
 refine h _ ?_
 rw[List.getD_eq_getElem?_getD,List.getElem?_eq_getElem hk]
 exact List.getElem_mem hk
theorem walkO_mem {xs:List Int} {f t:Nat} (ht:t≤xs.length) {l:List Int} (h:walkO xs f t=some l) {x:Int} (hx:x ∈ l):∃j:Nat,x=j∧f≤j∧j<t∧chunk xs j≠0:=walkL_mem xs t ht _ _ _ h x hx
theorem walkO_len {xs:List Int} {f t:Nat} (ht:t≤1048576) {l:List Int} (h:walkO xs f t=some l):2*l.length≤t-f∧AllI l:=walkL_length xs t ht _ _ _ h
theorem walkO_pos {xs:List Int} {f t:Nat} (hft:f<t) {l:List Int} (h:walkO xs f t=some l):0<l.length:=by
 by_cases hb:chunk xs f=0∨(f:Int)+chunk xs f > t
 ·rw[walkO_bad hft hb]at h;cases h
 ·rw[walkO_step hft hb]at h
  obtain⟨l',_,rfl⟩:=Option.map_eq_some_iff.1 h
  simp
theorem places_facts {H:Hp} {ps:List Int} (h:placesR H=some ps):Nums H∧zeroB H=true∧∃r u,roomW H=some r∧upW H=some u∧r.all (roomOk H)=true∧ps=r++u:=by
 unfold placesR placesB at h
 split at h
 ·cases h
 ·rename_i h1
  split at h
  ·cases h
  ·rename_i h2
   cases hr:roomW H with
   |none=>rw[hr]at h;cases h
   |some r=>
    cases hu:upW H with
    |none=>rw[hr,hu]at h;cases h
    |some u=>
     rw[hr,hu]at h
     simp only at h
     split at h
     ·rename_i h3
      cases h
      exact⟨nums_of (by simpa using h1),by simpa using h2,r,u,rfl,rfl,h3,rfl⟩
     ·cases h
theorem places_plc {H:Hp} {ps:List Int} (h:placesR H=some ps):(∀p ∈ ps,∃j:Nat,p=j∧j<H.row.length∧chunk H.row j≠0)∧ps.length≤500:=by
 obtain⟨N,_,r,u,hr,hu,_,rfl⟩:=places_facts h
 have hl:=N.len
 have h1:=N.half1
 have h2:=N.old1
 have h3:=N.room
 have b1:=(walkO_len (by omega) hr).1
 have b2:=(walkO_len (by omega) hu).1
 refine⟨fun p hp => ?_,by simp;omega⟩
 rcases List.mem_append.1 hp with hp|hp
 ·obtain⟨j,e,_,a,b⟩:=walkO_mem (by omega) hr hp
  exact⟨j,e,by omega,b⟩
 ·obtain⟨j,e,_,a,b⟩:=walkO_mem (by omega) hu hp
  exact⟨j,e,by omega,b⟩
def cnS (x:Int):Int:=if uF x=7 then 1 else if uF x=6 then 0 else uS x
def slotsOf (H:Hp) (p:Int):List Int:=(H.row.drop (p.toNat+1)).take (cnS (H.row.getD p.toNat 0)).toNat
def slotsOk (H:Hp) (ps:List Int):Bool:=ps.all (fun p=>(slotsOf H p).all (wordIn H ps))
def endsOk (H:Hp) (ps:List Int):Bool:=ps.all (endsL H (ps.length+1))
def mournOk (H:Hp) (ps:List Int):Bool:=H.mourned.all (fun x=>isA x&&wordIn H ps x)
def rightB (H:Hp):Bool:=match placesR H with|none=>false|some ps=>slotsOk H ps&&endsOk H ps&&H.roots.all (wordIn H ps)&&mournOk H ps
def seenL (H:Hp):List Int:=((upW H).getD []).filter (fun p=>(slotsOf H p).any (youngB H))
def heapOk (H:Hp):Bool:=rightB H&&decide (H.seen=seenL H)
theorem chunk_slots {xs:List Int} {j:Nat} (h:chunk xs j≠0):0≤cnS (xs.getD j 0)∧(j:Int)+1+cnS (xs.getD j 0)≤xs.length:=by
 have b:=chunk_bounds xs j
 unfold chunk at h b
 split at h
 ·rename_i h0
  rw[if_pos h0]at b
  obtain⟨s1,s2⟩:=uS_bounds (xs.getD j 0)
  have sb:=sz_bounds s1 s2
  unfold cnS
  by_cases h6:uF (xs.getD j 0)=6
  ·rw[if_neg (by omega),if_pos h6]
   rw[if_pos h6]at h b
   rcases b with b|b
   ·exact absurd b h
   ·omega
  ·rw[if_neg h6]at h b
   rcases b with b|b
   ·exact absurd b h
   ·split at b
    ·by_cases h7:uF (xs.getD j 0)=7
     ·rw[if_pos h7];omega
     ·rw[if_neg h7,if_neg h6];omega
    ·omega
 ·exact absurd rfl h
end Go.Proofs.YtemlagfaaibenaaGreat.hp
namespace Go.Proofs.YtemlagfaaibenaaGreat.hp
open Go.RowKit rows heads words walks
set_option maxRecDepth 100000
set_option linter.unusedVariables false
set_option linter.unusedSimpArgs false
def evn (lo hi x:Int):Bool:=inR lo hi x&&decide (x % 2=0)
def hp0:Hp:=⟨0,0,[],0,0,[],[],[],0⟩
theorem inR_true {lo hi x:Int} (h:inR lo hi x=true):lo≤x∧x≤hi:=by simpa [inR] using h
theorem inR_false {lo hi x:Int} (h:inR lo hi x=false):¬(lo≤x∧x≤hi):=by simpa [inR] using h
theorem evn_true {lo hi x:Int} (h:evn lo hi x=true):lo≤x∧x≤hi∧x % 2=0:=by
 simp only[evn,Bool.and_eq_true,decide_eq_true_eq]at h
 exact⟨(inR_true h.1).1,(inR_true h.1).2,h.2⟩
set_option maxHeartbeats 2000000 in
theorem evenWithin_any (x lo hi:Int) (hlo:0≤lo) (w:World) :
    Calls Tryz.prog 135 #[.int .i64 x,.int .i64 lo,.int .i64 hi] w fun e w'=>e = .returned (.bool (evn lo hi x))∧w'=w:=by
 by_cases h1:lo≤x
 ·by_cases h2:x≤hi
  ·by_cases h3:x % 2=0
   ·have e:evn lo hi x=true:=by simp[evn,inR,h1,h2,h3]
    rw[e]
    have m1:(x.tmod 2==0)=true:=by rw[Int.tmod_eq_emod_of_nonneg (by omega),h3];rfl
    have m2:(x % 2==0)=true:=by rw[h3];rfl
    clear e h3
    go_enter Tryz.func135,Tryz.ntmps135
    go_wp2
    go_ret
    exact⟨rfl,rfl⟩
   ·have h3':x % 2=1:=by omega
    have e:evn lo hi x=false:=by simp[evn,inR,h1,h2,h3']
    rw[e]
    have m1:(x.tmod 2==0)=false:=by rw[Int.tmod_eq_emod_of_nonneg (by omega),h3'];rfl
    have m2:(x % 2==0)=false:=by rw[h3'];rfl
    clear e h3 h3'
    go_enter Tryz.func135,Tryz.ntmps135
    go_wp2
    go_ret
    exact⟨rfl,rfl⟩
  ·have e:evn lo hi x=false:=by simp[evn,inR,h2]
   rw[e]
   clear e
   go_enter Tryz.func135,Tryz.ntmps135
   go_wp2
   go_ret
   exact⟨rfl,rfl⟩
 ·have e:evn lo hi x=false:=by simp[evn,inR,h1]
  rw[e]
  clear e
  go_enter Tryz.func135,Tryz.ntmps135
  go_wp2
  go_ret
  exact⟨rfl,rfl⟩
theorem sizesOk_any (x y:Int) (w:World) :
    Calls Tryz.prog 115 #[.int .i64 x,.int .i64 y] w fun e w'=>e = .returned (.bool (evn 8 200 x&&evn 8 400 y))∧w'=w:=by
 have E1:=evenWithin_any x 8 200 (by decide)
 have E2:=evenWithin_any y 8 400 (by decide)
 cases d:evn 8 200 x
 ·rw[d]at E1
  go_enter Tryz.func115,Tryz.ntmps115
  go_wp2_with (go_at_call 135;refine (E1 _).mono ?_;clear E1;rintro e w3 ⟨rfl,hw3⟩;rw[hw3];clear hw3 w3)
  go_ret
  exact⟨rfl,rfl⟩
 ·rw[d]at E1
  go_enter Tryz.func115,Tryz.ntmps115
  go_wp2_with (first
   |(have hh:=E1;clear hh;go_at_call 135;refine (E1 _).mono ?_;clear E1;rintro e w3 ⟨rfl,hw3⟩;rw[hw3];clear hw3 w3)
   |(have hh:=E2;clear hh;go_at_call 135;refine (E2 _).mono ?_;clear E2;rintro e w3 ⟨rfl,hw3⟩;rw[hw3];clear hw3 w3))
  go_ret
  exact⟨rfl,rfl⟩
theorem rowLength_any (X Y L:Nat) (hL:2*X+Y=L) (hm:L≤1048576) (w:World) :
    Calls Tryz.prog 70 #[.int .i64 (X:Int),.int .i64 (Y:Int)] w fun e w'=>e = .returned (.int .i64 (L:Int))∧w'=w:=by
 have b1:X≤1048576:=by omega
 have b2:Y≤1048576:=by omega
 have HL:Hid _:=hL
 clear hL
 go_enter Tryz.func70,Tryz.ntmps70
 go_wp2
 go_ret
 exact⟨by rw[←HL.out];go_num,rfl⟩
end Go.Proofs.YtemlagfaaibenaaGreat.hp
namespace Go.Proofs.YtemlagfaaibenaaGreat.hp
open Go.RowKit rows heads words walks
set_option maxRecDepth 100000
set_option linter.unusedVariables false
structure Pd where
 s:Int
 f:Int
 c:Int
 h:Int
 p:Bool
 m:Bool
 u:Value
 pl:Int
abbrev pdv (d:Pd):Value:=.agg #[(.int .i64 d.s),(.int .i64 d.f),(.int .i64 d.c),(.int .i64 d.h),(.bool d.p),(.bool d.m),d.u,(.int .i64 d.pl)]
abbrev pdb (d:Pd):Obj:=.cells #[(.int .i64 d.s),(.int .i64 d.f),(.int .i64 d.c),(.int .i64 d.h),(.bool d.p),(.bool d.m),d.u,(.int .i64 d.pl)] 46
abbrev pdD:Pd:=⟨0,0,0,0,false,false,.slice none 0 0,0⟩
def pdOf (a:Option Addr) (xs:List Int) (k:Nat):Pd:=⟨uS (xs.getD k 0),uF (xs.getD k 0),uC (xs.getD k 0),uH (xs.getD k 0),uP (xs.getD k 0),uM (xs.getD k 0),piece a k (chunk xs k).toNat,k⟩
def cellsP:List Pd→List Value
 | []=>[]
 |d :: ds=>(.int .i64 d.s) :: (.int .i64 d.f) :: (.int .i64 d.c) :: (.int .i64 d.h) :: (.bool d.p) :: (.bool d.m) :: d.u :: (.int .i64 d.pl) :: cellsP ds
theorem cellsP_length:∀ds:List Pd,(cellsP ds).length=ds.length*8
 | []=>rfl
 |_ :: ds=>by simp[cellsP,cellsP_length ds];omega
theorem cellsP_append:∀ds es:List Pd,cellsP (ds++es)=cellsP ds++cellsP es
 | [],_=>rfl
 |_ :: ds,es=>by simp[cellsP,cellsP_append ds es]
theorem cellsP_at:∀(ds:List Pd) (i:Nat),i<ds.length→(cellsP ds)[i*8]? = some (.int .i64 (ds.getD i pdD).s)∧(cellsP ds)[i*8+1]? = some (.int .i64 (ds.getD i pdD).f)∧(cellsP ds)[i*8+2]? = some (.int .i64 (ds.getD i pdD).c)∧(cellsP ds)[i*8+3]? = some (.int .i64 (ds.getD i pdD).h)∧(cellsP ds)[i*8+4]? = some (.bool (ds.getD i pdD).p)∧(cellsP ds)[i*8+5]? = some (.bool (ds.getD i pdD).m)∧(cellsP ds)[i*8+6]? = some ((ds.getD i pdD).u)∧(cellsP ds)[i*8+7]? = some (.int .i64 (ds.getD i pdD).pl)
 | [],_,h=>by simp at h
 |e :: ds,0,_=>by simp[cellsP]
 |e :: ds,i+1,h=>by
  have:=cellsP_at ds i (by simpa using h)
  rw[show (i+1)*8=i*8+1+1+1+1+1+1+1+1 by omega]
  simpa [cellsP] using this
def SlicesP (ds:List Pd):Prop:=∀d ∈ ds,∃a n c,d.u = .slice a n c
theorem cellsP_one:∀ {ds:List Pd},SlicesP ds→∀v ∈ cellsP ds,v.oneCell'=true
 | [],_,v,h=>by simp[cellsP]at h
 |d :: ds,hs,v,h=>by
  simp only[cellsP,List.mem_cons]at h
  rcases h with rfl|rfl|rfl|rfl|rfl|rfl|rfl|rfl|h
  ·rfl
  ·rfl
  ·rfl
  ·rfl
  ·rfl
  ·rfl
  ·obtain⟨a,n,c,e⟩:=hs d (List.mem_cons_self ..)
   rw[e];rfl
  ·rfl
  ·exact cellsP_one (fun d' hd=>hs d' (List.mem_cons_of_mem _ hd)) v h
def PdsAt (w:World) (v:Value) (ds:List Pd):Prop:=
 ∃a cap,v = .slice a ds.length cap∧ds.length≤cap∧cap≤maxLen∧(a=none→cap=0) ∧
  (0<ds.length→∃b off,a=some ⟨b,off,none⟩∧b<w.heap.size∧∀i,i<ds.length→w.cell? ⟨b,off+i*8,none⟩=some (.int .i64 (ds.getD i pdD).s)∧w.cell? ⟨b,off+i*8+1,none⟩=some (.int .i64 (ds.getD i pdD).f)∧w.cell? ⟨b,off+i*8+2,none⟩=some (.int .i64 (ds.getD i pdD).c)∧w.cell? ⟨b,off+i*8+3,none⟩=some (.int .i64 (ds.getD i pdD).h)∧w.cell? ⟨b,off+i*8+4,none⟩=some (.bool (ds.getD i pdD).p)∧w.cell? ⟨b,off+i*8+5,none⟩=some (.bool (ds.getD i pdD).m)∧w.cell? ⟨b,off+i*8+6,none⟩=some ((ds.getD i pdD).u)∧w.cell? ⟨b,off+i*8+7,none⟩=some (.int .i64 (ds.getD i pdD).pl))
theorem pdsAt_below {w w':World} {v:Value} {ds:List Pd} (h:PdsAt w v ds) (hb:Below w.heap.size w w'):PdsAt w' v ds:=by
 obtain⟨a,cap,rfl,h1,h2,h4,h3⟩:=h
 refine⟨a,cap,rfl,h1,h2,h4,fun hp => ?_⟩
 obtain⟨b,off,rfl,hlt,hc⟩:=h3 hp
 refine⟨b,off,rfl,Nat.lt_of_lt_of_le hlt hb.size,fun i hi => ?_⟩
 obtain⟨k0,k1,k2,k3,k4,k5,k6,k7⟩:=hc i hi
 exact⟨(hb.cell (p:=⟨b,_,none⟩) hlt).trans k0,(hb.cell (p:=⟨b,_,none⟩) hlt).trans k1,(hb.cell (p:=⟨b,_,none⟩) hlt).trans k2,(hb.cell (p:=⟨b,_,none⟩) hlt).trans k3,(hb.cell (p:=⟨b,_,none⟩) hlt).trans k4,(hb.cell (p:=⟨b,_,none⟩) hlt).trans k5,(hb.cell (p:=⟨b,_,none⟩) hlt).trans k6,(hb.cell (p:=⟨b,_,none⟩) hlt).trans k7⟩
def OwnP (w:World) (base:Nat) (v:Value) (ds:List Pd):Prop:=w.ownsRow base 46 8 v ds.length (cellsP ds)
theorem ownP_below {w w':World} {base:Nat} {v:Value} {ds:List Pd} (h:OwnP w base v ds) (hb:Below w.heap.size w w'):OwnP w' base v ds:=row_ch (S:=[]) h (ch_below hb) (by simp)
theorem ownP_base {w:World} {base base':Nat} {v:Value} {ds:List Pd} (h:OwnP w base v ds) (hb:base'≤base):OwnP w base' v ds:=by
 obtain⟨h0,⟨h1,h2⟩|⟨g,cap,cur,h1,hg,hh⟩⟩:=h
 ·exact⟨h0,.inl ⟨h1,h2⟩⟩
 ·exact⟨h0,.inr ⟨g,cap,cur,h1,Nat.le_trans hb hg,hh⟩⟩
theorem ownP_at {w:World} {base:Nat} {v:Value} {ds:List Pd} (h:OwnP w base v ds):PdsAt w v ds:=by
 have h':=h
 obtain⟨_,⟨rfl,hn⟩|⟨g,cap,cur,rfl,hg,hh,hle,hm,hs,ht⟩⟩:=h
 ·have:ds=[]:=by simpa using hn
  subst this
  exact⟨none,0,rfl,by simp,by decide,fun _=>rfl,fun hp=>absurd hp (by simp)⟩
 ·refine⟨_,cap,rfl,hle,hm,fun h=>(by cases h),fun hp=>⟨g,0,rfl,lt_of_block hh,fun i hi => ?_⟩⟩
  obtain⟨k0,k1,k2,k3,k4,k5,k6,k7⟩:=cellsP_at ds i hi
  have cl:∀j,j<ds.length*8→w.cell? ⟨g,0+j,none⟩=(cellsP ds)[j]? := fun j hj=>by rw[Nat.zero_add];exact World.ownsRow.cellAt h' j (by omega)
  refine⟨(show w.cell? ⟨g,0+i*8,none⟩=_ from (cl (i*8) (by omega)).trans k0),(show w.cell? ⟨g,0+i*8+1,none⟩=_ from by rw[Nat.add_assoc];exact (cl (i*8+1) (by omega)).trans k1),(show w.cell? ⟨g,0+i*8+2,none⟩=_ from by rw[Nat.add_assoc];exact (cl (i*8+2) (by omega)).trans k2),(show w.cell? ⟨g,0+i*8+3,none⟩=_ from by rw[Nat.add_assoc];exact (cl (i*8+3) (by omega)).trans k3),(show w.cell? ⟨g,0+i*8+4,none⟩=_ from by rw[Nat.add_assoc];exact (cl (i*8+4) (by omega)).trans k4),(show w.cell? ⟨g,0+i*8+5,none⟩=_ from by rw[Nat.add_assoc];exact (cl (i*8+5) (by omega)).trans k5),(show w.cell? ⟨g,0+i*8+6,none⟩=_ from by rw[Nat.add_assoc];exact (cl (i*8+6) (by omega)).trans k6),(show w.cell? ⟨g,0+i*8+7,none⟩=_ from by rw[Nat.add_assoc];exact (cl (i*8+7) (by omega)).trans k7)⟩
theorem pds_slice {w:World} {v:Value} {ds:List Pd} (h:PdsAt w v ds):∃a c,v = .slice a ds.length c:=by
 obtain⟨a,c,e,_⟩:=h
 exact⟨a,c,e⟩
theorem pds_cell {w:World} {a:Option Addr} {n cap:Nat} {ds:List Pd} (h:PdsAt w (.slice a n cap) ds) {i:Nat} (hi:i<ds.length):∃b off,a=some ⟨b,off,none⟩∧b<w.heap.size∧w.cell? ⟨b,off+i*8,none⟩=some (.int .i64 (ds.getD i pdD).s)∧w.cell? ⟨b,off+i*8+1,none⟩=some (.int .i64 (ds.getD i pdD).f)∧w.cell? ⟨b,off+i*8+2,none⟩=some (.int .i64 (ds.getD i pdD).c)∧w.cell? ⟨b,off+i*8+3,none⟩=some (.int .i64 (ds.getD i pdD).h)∧w.cell? ⟨b,off+i*8+4,none⟩=some (.bool (ds.getD i pdD).p)∧w.cell? ⟨b,off+i*8+5,none⟩=some (.bool (ds.getD i pdD).m)∧w.cell? ⟨b,off+i*8+6,none⟩=some ((ds.getD i pdD).u)∧w.cell? ⟨b,off+i*8+7,none⟩=some (.int .i64 (ds.getD i pdD).pl):=by
 obtain⟨a',c',e,_,_,_,hc⟩:=h
 injection e with e1 e2 e3
 subst e1
 obtain⟨b,off,rfl,hb,hcc⟩:=hc (by omega)
 exact⟨b,off,rfl,hb,hcc i hi⟩
theorem pds_cap {w:World} {a:Option Addr} {n cap:Nat} {ds:List Pd} (h:PdsAt w (.slice a n cap) ds):n=ds.length∧n≤cap∧cap≤9223372036854775807:=by
 obtain⟨a',c',e,h1,h2,_,_⟩:=h
 injection e with e1 e2 e3
 subst e3
 exact⟨e2,by omega,h2⟩
theorem pds_news {w:World} {ad:Addr} {n cap:Nat} {ds:List Pd} (h:PdsAt w (.slice (some ad) n cap) ds):∀j v,(cellsP ds)[j]? = some v→w.cell? (ad.add j)=some v:=by
 intro j v hj
 have hl:j<(cellsP ds).length:=(List.getElem?_eq_some_iff.1 hj).1
 rw[cellsP_length]at hl
 obtain⟨i,hi⟩:∃i,j / 8=i:=⟨_,rfl⟩
 have hd:i<ds.length:=by omega
 obtain⟨b,off,e,_,k0,k1,k2,k3,k4,k5,k6,k7⟩:=pds_cell h hd
 injection e with e
 subst e
 obtain⟨q0,q1,q2,q3,q4,q5,q6,q7⟩:=cellsP_at ds i hd
 have e2:(⟨b,off,none⟩:Addr).add j=⟨b,off+j,none⟩:=by cases j<;>simp[Addr.add]
 rw[e2]
 rcases (show j=i*8∨j=i*8+1∨j=i*8+2∨j=i*8+3∨j=i*8+4∨j=i*8+5∨j=i*8+6∨j=i*8+7 by omega) with e|e|e|e|e|e|e|e
 ·rw[e]at hj
  rw[q0]at hj
  cases hj
  rw[e]
  exact k0
 ·rw[e]at hj
  rw[q1]at hj
  cases hj
  rw[e,←Nat.add_assoc]
  exact k1
 ·rw[e]at hj
  rw[q2]at hj
  cases hj
  rw[e,←Nat.add_assoc]
  exact k2
 ·rw[e]at hj
  rw[q3]at hj
  cases hj
  rw[e,←Nat.add_assoc]
  exact k3
 ·rw[e]at hj
  rw[q4]at hj
  cases hj
  rw[e,←Nat.add_assoc]
  exact k4
 ·rw[e]at hj
  rw[q5]at hj
  cases hj
  rw[e,←Nat.add_assoc]
  exact k5
 ·rw[e]at hj
  rw[q6]at hj
  cases hj
  rw[e,←Nat.add_assoc]
  exact k6
 ·rw[e]at hj
  rw[q7]at hj
  cases hj
  rw[e,←Nat.add_assoc]
  exact k7
theorem infoP:(Tryz.prog.info? 46).map (fun i=>(i.zero,i.size,i.bytes))=some (some (pdv pdD),8,72):=by kernel_rfl
end Go.Proofs.YtemlagfaaibenaaGreat.hp
