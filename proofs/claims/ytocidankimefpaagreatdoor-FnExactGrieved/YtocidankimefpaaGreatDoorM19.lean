/- Chapter 9 as the specification has it: H -/
import Derived.Test.YtocidankimefpaaGreatDoorM18
set_option linter.unusedSimpArgs false
set_option linter.unusedVariables false
set_option maxRecDepth 100000
namespace Go.Proofs.YtocidankimefpaaGreatDoor.hp
open Go.RowKit rows heads words walks region
theorem td {H:Hp} (h:rightB H=true):∃ps,bO H=some ps:=by
 unfold rightB at h;cases d:bO H with
 |none=>rw[d]at h;cases h
 |some ps=>exact⟨ps,rfl⟩
set_option maxHeartbeats 8000000 in
theorem yg {w:World} {vr vo vm vs:Value} {H:Hp} (h:eW w vr vo vm vs H) (hs:bI H≤1048576) :
    Calls Tryz.prog 15 #[hpv H vr vo vm vs] w fun e w'=>e = .returned (.bool (dv H))∧Below w.heap.size w w':=by
 obtain⟨_,_,_,hsl⟩:=pD hs;obtain⟨a1,c1,a2,c2,a3,c3,a4,c4,e1,e2,e3,e4⟩:=aK h;subst e1 e2 e3 e4;have B0:Below w.heap.size w (w.alloc (hpb H (.slice a1 H.row.length c1) (.slice a2 H.roots.length c2) (.slice a3 H.a7.length c3) (.slice a4 H.seen.length c4))):=(Below.refl _ _).alloc (Nat.le_refl _) _;have T0:=de w H (.slice a1 H.row.length c1) (.slice a2 H.roots.length c2) (.slice a3 H.a7.length c3) (.slice a4 H.seen.length c4);have HT0:Hid _:=T0;have HB0:Hid _:=B0;have HH0:Hid (eW _ (.slice a1 H.row.length c1) (.slice a2 H.roots.length c2) (.slice a3 H.a7.length c3) (.slice a4 H.seen.length c4) H):=aD h B0;cases dr:rightB H
 ·have e:dv H=false:=by unfold dv;rw[dr];rfl
  rw[e];obtain⟨⟨z0,z1,z2,z3,z4⟩,⟨z5,z6,z7,z8⟩⟩:=dn T0;have HWD:Hid (∀x:Ext (w.alloc (hpb H (.slice a1 H.row.length c1) (.slice a2 H.roots.length c2) (.slice a3 H.a7.length c3) (.slice a4 H.seen.length c4))).heap.size (w.alloc (hpb H (.slice a1 H.row.length c1) (.slice a2 H.roots.length c2) (.slice a3 H.a7.length c3) (.slice a4 H.seen.length c4))),Calls Tryz.prog 39 #[hpv H (.slice a1 H.row.length c1) (.slice a2 H.roots.length c2) (.slice a3 H.a7.length c3) (.slice a4 H.seen.length c4)] x.to fun e w''=>e = .returned (.bool false)∧∃y:Ext (w.alloc (hpb H (.slice a1 H.row.length c1) (.slice a2 H.roots.length c2) (.slice a3 H.a7.length c3) (.slice a4 H.seen.length c4))).heap.size (w.alloc (hpb H (.slice a1 H.row.length c1) (.slice a2 H.roots.length c2) (.slice a3 H.a7.length c3) (.slice a4 H.seen.length c4))),w''=y.to):=fun x=>bJ (Nat.le_refl _) (dr▸rz (aD HH0.out x.below))
  clear B0 T0 h e dr;go_enter Tryz.func15,Tryz.ntmps15;go_upto_region 1 with fail
  generalize (w.alloc (hpb H (.slice a1 H.row.length c1) (.slice a2 H.roots.length c2) (.slice a3 H.a7.length c3) (.slice a4 H.seen.length c4)))=X at *;haveI:=fA X
  refine bY (n:=X.heap.size) (by kernel_rfl) (by kernel_rfl) ?_;repeat (go_big_quiet_step ((go_at_call 39;exact HWD.out _)))
  refine wpQuiet_nil ?_;intro _ hw';obtain⟨x,rfl⟩:=hw';have HBE:Hid _:=HB0.out.trans (x.below.mono HB0.out.size);clear z0 z1 z2 z3 z4 z5 z6 z7 z8 HWD;generalize x.to=W at *;clear x this;go_wp2;go_ret;exact⟨rfl,HBE.out⟩
 ·have e:dv H=decide (H.seen=jF H):=by unfold dv;rw[dr];rfl
  rw[e];obtain⟨ps,hps⟩:=td dr;obtain⟨N,_,r,u,_,hu,_,_⟩:=bQ hps;have HR9:Hid (∀W,Below (w.alloc (hpb H (.slice a1 H.row.length c1) (.slice a2 H.roots.length c2) (.slice a3 H.a7.length c3) (.slice a4 H.seen.length c4))).heap.size (w.alloc (hpb H (.slice a1 H.row.length c1) (.slice a2 H.roots.length c2) (.slice a3 H.a7.length c3) (.slice a4 H.seen.length c4))) W→Calls Tryz.prog 39 #[hpv H (.slice a1 H.row.length c1) (.slice a2 H.roots.length c2) (.slice a3 H.a7.length c3) (.slice a4 H.seen.length c4)] W fun e w'=>e = .returned (.bool true)∧Below W.heap.size W w'):=fun W hW=>dr▸rz (aD HH0.out hW)
  have HS9:Hid (∀W,Below (w.alloc (hpb H (.slice a1 H.row.length c1) (.slice a2 H.roots.length c2) (.slice a3 H.a7.length c3) (.slice a4 H.seen.length c4))).heap.size (w.alloc (hpb H (.slice a1 H.row.length c1) (.slice a2 H.roots.length c2) (.slice a3 H.a7.length c3) (.slice a4 H.seen.length c4))) W→Calls Tryz.prog 41 #[hpv H (.slice a1 H.row.length c1) (.slice a2 H.roots.length c2) (.slice a3 H.a7.length c3) (.slice a4 H.seen.length c4)] W fun e w'=>∃v',e = .returned v'∧rows.Own w' W.heap.size v' (jF H)∧Below W.heap.size W w'):=fun W hW=>AN (aD HH0.out hW) N hu
  generalize jF H=S at *;clear B0 h e dr hps N hu;go_enter Tryz.func15,Tryz.ntmps15;go_upto_region 1 with fail
  generalize (w.alloc (hpb H (.slice a1 H.row.length c1) (.slice a2 H.roots.length c2) (.slice a3 H.a7.length c3) (.slice a4 H.seen.length c4)))=X at *;obtain⟨⟨z0,z1,z2,z3,z4⟩,⟨z5,z6,z7,z8⟩,_⟩:=ag T0;clear T0
  go_region_law (first
   |(have hh:=HR9;clear hh;go_simp;go_at_call 39;refine (HR9.out _ (Below.refl _ _).drew).mono ?_;clear HR9;rintro e w2 ⟨rfl,b2⟩;have b2':Below X.heap.size X w2:=⟨b2.os,b2.tape,b2.output,b2.size,b2.block⟩;have HB2:Hid _:=b2';clear b2 b2' z0 z1 z2 z3 z4 z5 z6 z7 z8;obtain⟨⟨z0,z1,z2,z3,z4⟩,⟨z5,z6,z7,z8⟩,_⟩:=ag (ai HT0.out HB2.out))
   |(have hh:=HS9;clear hh;go_simp;go_at_call 41;refine (HS9.out _ HB2.out).mono ?_;clear HS9;rintro e w3 ⟨v3,rfl,O3,b3⟩;have HB3:Hid (Below X.heap.size X w3):=HB2.out.trans (b3.mono HB2.out.size);have HSM:Hid _:=AG (aa HH0.out.2.2.2 HB3.out) (aj O3) hsl;obtain⟨sa,sn,sc,rfl⟩:=bl (aj O3);clear O3 b3 z0 z1 z2 z3 z4 z5 z6 z7 z8;obtain⟨⟨z0,z1,z2,z3,z4⟩,⟨z5,z6,z7,z8⟩,_⟩:=ag (ai HT0.out HB3.out))
   |(have hh:=HSM;clear hh;go_simp;go_at_call 40;refine Calls.mono HSM.out ?_;clear HSM;rintro e w4 ⟨rfl,q4⟩;have HB4:Hid (Below w.heap.size w w4):=(HB0.out.trans (HB3.out.mono HB0.out.size)).trans ((br q4).mono (HB0.out.trans (HB3.out.mono HB0.out.size)).size);clear q4))
  all_goals (go_wp2)
  all_goals go_ret
  all_goals exact⟨rfl,HB4.out⟩
end Go.Proofs.YtocidankimefpaaGreatDoor.hp
namespace Go.Proofs.YtocidankimefpaaGreatDoor.hp
open Go.RowKit rows heads words walks
def dg (H:Hp) (x:Int):Bool:=isA x&&ntH H (av x)
def gN (H:Hp) (x:Int):Int:=H.row.getD ((av x).toNat+1) 0
def folL (H:Hp):Nat→Int→Int
 |0,x=>x
 |n+1,x=>if dg H x=true then folL H n (gN H x) else x
def rkL (H:Hp):Nat→Int→Nat
 |0,_=>0
 |n+1,x=>if dg H x=true then rkL H n (gN H x)+1 else 0
def fol (H:Hp) (x:Int):Int:=folL H 1000 x
def rk (H:Hp) (x:Int):Nat:=rkL H 1000 x
theorem gO {H:Hp} {x:Int} (h:dg H x=false):fol H x=x:=by
 unfold fol folL;rw[if_neg (by rw[h];decide)]
theorem Db (H:Hp) (x:Int):nxH H (av x)=av (gN H x):=rfl
theorem vY (H:Hp):∀(n:Nat) (x:Int),(isA x=true→ends (ntH H) (nxH H) n (av x)=true)→folL H n x=folL H (n+1) x∧rkL H n x=rkL H (n+1) x
 |0,x,h=>by
  have:dg H x=false:=by
   unfold dg;cases e:isA x
   ·rfl
   ·cases h e
  unfold folL rkL;rw[if_neg (by rw[this];decide),if_neg (by rw[this];decide)];exact⟨rfl,rfl⟩
 |n+1,x,h=>by
  cases e:dg H x
  ·have e0:¬dg H x=true:=by rw[e];decide
   constructor
   ·rw[folL,if_neg e0,folL,if_neg e0]
   ·rw[rkL,if_neg e0,rkL,if_neg e0]
  ·have e':=e;unfold dg at e';rw[Bool.and_eq_true]at e';have h1:=h e'.1;unfold ends at h1;rw[if_pos e'.2,Db]at h1;obtain⟨i1,i2⟩:=vY H n (gN H x) (fun _=>h1);constructor
   ·rw[folL,if_pos e,folL,if_pos e,i1]
   ·rw[rkL,if_pos e,rkL,if_pos e,i2]
structure Rt (H:Hp) (ps:List Int):Prop where
 some':bO H=some ps
 plc:∀p ∈ ps,∃j:Nat,p=j∧j<H.row.length∧chunk H.row j≠0
 notes:uv H ps
 fin:∀p ∈ ps,ends (ntH H) (nxH H) 1000 p=true
 slots:dO H ps=true
 roots:H.roots.all (aP H ps)=true
 a7:iK H ps=true
theorem EU {H:Hp} (h:rightB H=true):∃ps,Rt H ps:=by
 obtain⟨ps,hps⟩:=td h;unfold rightB at h;rw[hps]at h;simp only[Bool.and_eq_true]at h;obtain⟨⟨⟨h1,h2⟩,h3⟩,h4⟩:=h;obtain⟨hp,hl⟩:=gQ hps;have hN:=tL hp h1;refine⟨ps,hps,hp,hN,fun p hpp => ?_,h1,h3,h4⟩
 exact (yS (tr hN) hpp (by omega)).2 ((mY hN).1 h2 p hpp)
theorem Rt.len {H:Hp} {ps:List Int} (R:Rt H ps):H.row.length≤1000:=by
 have N:=(bQ R.some').1;have:=N.len
 have:=N.half1
 have:=N.old1
 omega
theorem kS {H:Hp} (h:dv H=true):rightB H=true∧H.seen=jF H:=by
 unfold dv at h;rw[Bool.and_eq_true,decide_eq_true_eq]at h;exact h
theorem o9 {H:Hp} {ps:List Int} {x:Int} (h:aP H ps x=true) (hA:isA x=true):av x ∈ ps∧uF (H.row.getD (av x).toNat 0)≠6:=by
 unfold aP at h;rw[hA]at h;simpa using (by simpa using h:isW x=true∧_).2
theorem Rt.note {H:Hp} {ps:List Int} (R:Rt H ps) {x:Int} (hx:aP H ps x=true) (hn:dg H x=true):(av x).toNat+1<H.row.length∧aP H ps (gN H x)=true∧isA (gN H x)=true∧fol H x=fol H (gN H x)∧rk H (gN H x)<rk H x:=by
 have hn':=hn;unfold dg at hn';rw[Bool.and_eq_true]at hn';obtain⟨hA,hnt⟩:=hn';obtain⟨hm,_⟩:=o9 hx hA;have h7:uF (H.row.getD (av x).toNat 0)=7:=by simpa [ntH] using hnt
 obtain⟨n1,n2,n3⟩:=R.notes _ hm h7;have hf:=R.fin _ hm
 have hf':ends (ntH H) (nxH H) 999 (av (gN H x))=true:=by
  unfold ends at hf;rw[if_pos hnt,Db]at hf;exact hf
 obtain⟨i1,i2⟩:=vY H 999 (gN H x) (fun _=>hf');refine⟨n1,?_,n2,?_,?_⟩
 ·have hs:=R.slots;unfold dO at hs;rw[List.all_eq_true]at hs;have h1:=hs _ hm;rw[List.all_eq_true]at h1;refine h1 _ ?_;unfold slotsOf cnS gN;rw[if_pos h7,List.mem_iff_getElem?];refine⟨0,?_⟩
  rw[List.getElem?_take,if_pos (by decide),List.getElem?_drop,Nat.add_zero,List.getElem?_eq_getElem n1,List.getD_eq_getElem?_getD,List.getElem?_eq_getElem n1];rfl
 ·show folL H 1000 x=folL H 1000 (gN H x)
  rw[show (1000:Nat)=999+1 from rfl,folL,if_pos hn,i1]
 ·show rkL H 1000 (gN H x)<rkL H 1000 x
  rw[show rkL H 1000 x=rkL H 999 (gN H x)+1 by rw[show (1000:Nat)=999+1 from rfl,rkL,if_pos hn],i2];exact Nat.lt_succ_self _
theorem Rt.fol {H:Hp} {ps:List Int} (R:Rt H ps):∀(n:Nat) (x:Int),rk H x≤n→aP H ps x=true→aP H ps (fol H x)=true∧dg H (hp.fol H x)=false
 |n,x,hr,hx=>by
  cases e:dg H x
  ·rw[gO e];exact⟨hx,e⟩
  ·obtain⟨_,h2,_,h4,h5⟩:=R.note hx e;rw[h4];match n,hr with
   |0,hr=>omega
   |n+1,hr=>exact R.fol n _ (by omega) h2
theorem Rt.followed {H:Hp} {ps:List Int} (R:Rt H ps) {x:Int} (hx:aP H ps x=true):aP H ps (hp.fol H x)=true∧dg H (hp.fol H x)=false:=R.fol _ x (Nat.le_refl _) hx
end Go.Proofs.YtocidankimefpaaGreatDoor.hp
namespace Go.Proofs.YtocidankimefpaaGreatDoor.hp
open Go.RowKit rows heads words walks region
def isO (H:Hp) (p:Int):Bool:= !(uF (H.row.getD p.toNat 0)==6)
def GX (H:Hp) (ps:List Int):List Int:=ps.filter (isO H)
end Go.Proofs.YtocidankimefpaaGreatDoor.hp
namespace Go.Proofs.YtocidankimefpaaGreatDoor.hp
open Go.RowKit rows heads words walks
def Ir (H:Hp) (p:Int) (q:Nat):Bool:= !(ntH H p)&&decide (p.toNat+1≤q)&&decide (q<p.toNat+1+(slotsOf H p).length)
def cov (H:Hp) (os:List Int) (q:Nat):Bool:=os.any (fun p=>Ir H p q)
structure Dif (H:Hp) (os:List Int) (xs:List Int):Prop where
 len:xs.length=H.row.length
 same:∀q,cov H os q=false→xs.getD q 0=H.row.getD q 0
structure Az (H:Hp) (ps:List Int):Prop where
 pair:ps.Pairwise (fun p q=>p+chunk H.row p.toNat≤q)
 nat:∀p ∈ ps,∃j:Nat,p=j∧chunk H.row j≠0∧j<H.row.length
theorem jt (xs:List Int) (t:Nat):∀(n k:Nat) (l:List Int),walkL xs t n k=some l→l.Pairwise (fun p q=>p+chunk xs p.toNat≤q)∧∀p ∈ l,(k:Int)≤p∧p+chunk xs p.toNat≤t:=by
 intro n;induction n with
 |zero=>
  intro k l h;unfold walkL at h;split at h
  ·cases h
  ·cases h;exact⟨List.Pairwise.nil,fun x hx=>by simp at hx⟩
 |succ n ih=>
  intro k l h;by_cases h1:k<t
  ·by_cases hb:chunk xs k=0∨(k:Int)+chunk xs k > t
   ·rw[fD _ _ _ _ h1 hb]at h;cases h
   ·rw[dL _ _ _ _ h1 hb]at h;obtain⟨l',hl',rfl⟩:=Option.map_eq_some_iff.1 h;obtain⟨i1,i2⟩:=ih _ _ hl';have:=aR xs k
    refine⟨List.Pairwise.cons (fun x hx => ?_) i1,fun x hx => ?_⟩
    ·have:=(i2 x hx).1
     rw[Int.toNat_natCast];omega
    ·rcases List.mem_cons.1 hx with rfl|hx
     ·rw[Int.toNat_natCast];omega
     ·have:=i2 x hx;omega
  ·rw[ew _ _ _ _ h1]at h;cases h;exact⟨List.Pairwise.nil,fun x hx=>by simp at hx⟩
theorem ue {H:Hp} {ps:List Int} (h:bO H=some ps):Az H ps:=by
 have hp:=(gQ h).1;obtain⟨N,_,r,u,hr,hu,_,rfl⟩:=bQ h;obtain⟨p1,m1⟩:=jt _ _ _ _ _ hr;obtain⟨p2,m2⟩:=jt _ _ _ _ _ hu;have:=N.room
 refine⟨List.pairwise_append.2 ⟨p1,p2,fun a ha b hb => ?_⟩,fun p hpp => ?_⟩
 ·have q1:=(m1 a ha).2;have q2:=(m2 b hb).1;omega
 ·obtain⟨j,a,b,c⟩:=hp p hpp;exact⟨j,a,c,b⟩
theorem Az.two {H:Hp} {ps:List Int} (h:Az H ps) {i j:Nat} (hi:(i:Int) ∈ ps) (hj:(j:Int) ∈ ps) (hlt:i<j):(i:Int)+chunk H.row i≤j:=by
 obtain⟨a,ha,ea⟩:=List.getElem_of_mem hi;obtain⟨b,hb,eb⟩:=List.getElem_of_mem hj;have hP:=List.pairwise_iff_getElem.1 h.pair;rcases Nat.lt_trichotomy a b with q|q|q
 ·have:=hP a b ha hb q
  rw[ea,eb,Int.toNat_natCast]at this;exact this
 ·subst q;rw[ea]at eb;omega
 ·have:=hP b a hb ha q
  rw[ea,eb,Int.toNat_natCast]at this;have c:=aR H.row j;omega
theorem kj {H:Hp} {j:Nat} (hc:chunk H.row j≠0) (h6:uF (H.row.getD j 0)≠6):(j:Int)+1+(slotsOf H j).length≤j+chunk H.row j:=by
 have hb:=aR H.row j;rw[mu hc]
 have e:chunk H.row j=sz (uS (H.row.getD j 0)):=by
  unfold chunk at hc ⊢;by_cases h0:(ok (H.row.getD j 0) && !uM (H.row.getD j 0))=true
  ·rw[if_pos h0,if_neg h6]at hc ⊢;by_cases h3:(j:Int)+sz (uS (H.row.getD j 0))≤H.row.length∧(uF (H.row.getD j 0)=7→isA (H.row.getD (j+1) 0)=true)
   ·rw[if_pos h3]
   ·rw[if_neg h3]at hc;exact absurd rfl hc
  ·rw[if_neg h0]at hc;exact absurd rfl hc
 obtain⟨s1,s2⟩:=cu (H.row.getD j 0);have sb:=cD s1 s2;unfold cnS;by_cases h7:uF (H.row.getD j 0)=7
 ·rw[if_pos h7];omega
 ·rw[if_neg h7,if_neg h6];omega
theorem ug {H:Hp} {ps:List Int} {p:Int} (h:p ∈ GX H ps):p ∈ ps∧uF (H.row.getD p.toNat 0)≠6:=by
 obtain⟨a,b⟩:=List.mem_filter.1 h;refine⟨a,?_⟩
 unfold isO at b;simpa using b
theorem EV {H:Hp} {ps os:List Int} (hA:Az H ps) (ho:∀p ∈ os,p ∈ GX H ps) {j:Nat} (hj:(j:Int) ∈ ps):cov H os j=false:=by
 unfold cov;rw[List.any_eq_false];intro p hp hc;obtain⟨hpp,h6⟩:=ug (ho p hp);obtain⟨i,rfl,hci,_⟩:=hA.nat p hpp;rw[Int.toNat_natCast]at h6;simp only[Ir,Bool.and_eq_true,decide_eq_true_eq,Int.toNat_natCast]at hc;have e:=kj hci h6;have:=hA.two hpp hj (by omega)
 omega
theorem AA {H:Hp} {ps os:List Int} (hA:Az H ps) (ho:∀p ∈ os,p ∈ GX H ps) {j:Nat} (hj:(j:Int) ∈ ps) (h:uF (H.row.getD j 0)=7∨uF (H.row.getD j 0)=6):cov H os (j+1)=false:=by
 unfold cov;rw[List.any_eq_false];intro p hp hc;obtain⟨hpp,h6⟩:=ug (ho p hp);obtain⟨i,rfl,hci,_⟩:=hA.nat p hpp;rw[Int.toNat_natCast]at h6;simp only[Ir,Bool.and_eq_true,decide_eq_true_eq,Int.toNat_natCast,Bool.not_eq_true']at hc;have e:=kj hci h6;obtain⟨⟨c1,c2⟩,c3⟩:=hc;rcases Nat.lt_trichotomy i j with q|q|q
 ·have:=hA.two hpp hj q
  omega
 ·subst q;unfold ntH at c1;rw[Int.toNat_natCast]at c1;rcases h with h|h
  ·rw[h]at c1;cases c1
  ·exact h6 h
 ·omega
structure Sim (H H':Hp) (ps:List Int):Prop where
 len:H'.row.length=H.row.length
 head:∀j:Nat,(j:Int) ∈ ps→H'.row.getD j 0=H.row.getD j 0
 second:∀j:Nat,(j:Int) ∈ ps→(uF (H.row.getD j 0)=7∨uF (H.row.getD j 0)=6)→H'.row.getD (j+1) 0=H.row.getD (j+1) 0
theorem Dc {H H':Hp} {ps os:List Int} (hA:Az H ps) (ho:∀p ∈ os,p ∈ GX H ps) (hD:Dif H os H'.row):Sim H H' ps:=
 ⟨hD.len,fun j hj=>hD.same _ (EV hA ho hj),fun j hj h=>hD.same _ (AA hA ho hj h)⟩
theorem Dd {H H':Hp} {ps:List Int} (S:Sim H H' ps) {j:Nat} (hj:(j:Int) ∈ ps):chunk H'.row j=chunk H.row j:=by
 unfold chunk;rw[S.head j hj,S.len];by_cases h6:uF (H.row.getD j 0)=6
 ·rw[S.second j hj (.inr h6)]
 ·by_cases h7:uF (H.row.getD j 0)=7
  ·rw[S.second j hj (.inl h7)]
  ·simp only[if_neg h6,h7,false_implies]
theorem vZ {H H':Hp} {ps:List Int} (S:Sim H H' ps) (t:Nat):∀(n k:Nat) (l:List Int),walkL H.row t n k=some l→(∀p ∈ l,p ∈ ps)→walkL H'.row t n k=some l:=by
 intro n;induction n with
 |zero=>
  intro k l h _;unfold walkL at h ⊢;exact h
 |succ n ih=>
  intro k l h hm;by_cases h1:k<t
  ·by_cases hb:chunk H.row k=0∨(k:Int)+chunk H.row k > t
   ·rw[fD _ _ _ _ h1 hb]at h;cases h
   ·rw[dL _ _ _ _ h1 hb]at h;obtain⟨l',hl',rfl⟩:=Option.map_eq_some_iff.1 h;have e:=Dd S (hm _ (List.mem_cons_self ..));rw[dL _ _ _ _ h1 (by rw[e];exact hb),e,ih _ _ hl' (fun p hp=>hm p (List.mem_cons_of_mem _ hp))];rfl
  ·rw[ew _ _ _ _ h1]at h ⊢;exact h
theorem AD {H:Hp} {ps os:List Int} (h:bO H=some ps) (ho:∀p ∈ os,p ∈ GX H ps) {H':Hp} (hD:Dif H os H'.row) (e1:H'.half=H.half) (e2:H'.old=H.old) (e3:H'.side=H.side) (e4:H'.top=H.top) (e5:H'.seed=H.seed) (e6:H'.roots.length=H.roots.length) (e7:H'.a7.length=H.a7.length) :
    bO H'=some ps∧upW H'=upW H∧EG H'∧kV H'=true:=by
 have hA:=ue h;have S:=Dc hA ho hD
 have hb:rE H'=rE H:=by
  unfold rE hb8 hb7 hb6 hb5 hb4 hb3 hb2 hb1 hb0;rw[e1,e2,e3,e4,e5,e6,e7,S.len]
 have hb0:rE H=false:=by
  cases e:rE H
  ·rfl
  ·unfold bO at h;rw[if_pos e]at h;cases h
 obtain⟨N,hz,r,u,hr,hu,hall,hps⟩:=bQ h;have q1:bs H'=bs H:=by unfold bs;rw[e3,e1]
 have q2:tp H'=tp H:=by unfold tp;rw[e4]
 have q3:hf H'=hf H:=by unfold hf;rw[e1]
 have q4:od H'=od H:=by unfold od;rw[e2]
 have w1:kY H'=some r:=by
  unfold kY fV;rw[q1,q2];exact vZ S _ _ _ _ hr (fun p hp=>by rw[hps];exact List.mem_append.2 (.inl hp))
 have w2:upW H'=some u:=by
  unfold upW fV;rw[q3,q4];exact vZ S _ _ _ _ hu (fun p hp=>by rw[hps];exact List.mem_append.2 (.inr hp))
 have hal:r.all (iA H')=true:=by
  rw[List.all_eq_true]at hall ⊢;intro p hp;have hpp:p ∈ ps:=by rw[hps];exact List.mem_append.2 (.inl hp)
  obtain⟨j,rfl,_,_⟩:=hA.nat p hpp;have:=hall _ hp
  unfold iA at this ⊢;rw[Int.toNat_natCast]at this ⊢;rwa [S.head j hpp]
 obtain⟨_,m1⟩:=jt _ _ _ _ _ hr;obtain⟨_,m2⟩:=jt _ _ _ _ _ hu
 have hzz:kW H'=true:=by
  refine sQ (fun i hi => ?_);have hi':i<2*hf H:=by rw[q3]at hi;exact hi
  have hz0:zeroAt H i=true:=by
   unfold kW at hz;rw[List.all_eq_true]at hz;exact hz i (List.mem_range.2 hi')
  unfold zeroAt at hz0 ⊢;rw[q1,q2];by_cases hc:i<bs H∨bs H+tp H≤i
  ·have hcv:cov H os i=false:=by
     unfold cov;rw[List.any_eq_false];intro p hp hcp;obtain⟨hpp,h6⟩:=ug (ho p hp);obtain⟨j,rfl,hci,_⟩:=hA.nat p hpp;rw[Int.toNat_natCast]at h6;have e:=kj hci h6;simp only[Ir,Bool.and_eq_true,decide_eq_true_eq,Int.toNat_natCast]at hcp;rw[hps]at hpp;rcases List.mem_append.1 hpp with hpp|hpp
     ·have:=m1 _ hpp
      rw[Int.toNat_natCast]at this;omega
     ·have:=m2 _ hpp
      omega
   rw[hD.same i hcv];exact hz0
  ·simp only[not_or,Nat.not_lt,Nat.not_le]at hc;have d1:decide (i<bs H)=false:=decide_eq_false (by omega);have d2:decide (bs H+tp H≤i)=false:=decide_eq_false (by omega);rw[d1,d2];rfl
 have hN:EG H':=xR (hb.trans hb0);refine⟨?_,w2.trans hu.symm,hN,((pK H').1 (hb.trans hb0)).1⟩
 unfold bO;rw[if_neg (by rw[hb,hb0];decide),lF hzz w1 w2 hal,hps]
end Go.Proofs.YtocidankimefpaaGreatDoor.hp
namespace Go.Proofs.YtocidankimefpaaGreatDoor.hp
open Go.RowKit rows heads words walks region
set_option maxHeartbeats 8000000 in
theorem mQ {w:World} {vr vo vm vs:Value} {H:Hp} (h:eW w vr vo vm vs H) {ps:List Int} (R:Rt H ps) (x:Int) (hx:aP H ps x=true) :
    Calls Tryz.prog 91 #[hpv H vr vo vm vs,.int .i64 x] w fun e w'=>e = .returned (.int .i64 (fol H x))∧Below w.heap.size w w':=by
 obtain⟨a1,c1,a2,c2,a3,c3,a4,c4,e1,e2,e3,e4⟩:=aK h;subst e1 e2 e3 e4;have B0:Below w.heap.size w (w.alloc (hpb H (.slice a1 H.row.length c1) (.slice a2 H.roots.length c2) (.slice a3 H.a7.length c3) (.slice a4 H.seen.length c4))):=(Below.refl _ _).alloc (Nat.le_refl _) _;have HB0:Hid _:=B0;have HT0:Hid _:=de w H (.slice a1 H.row.length c1) (.slice a2 H.roots.length c2) (.slice a3 H.a7.length c3) (.slice a4 H.seen.length c4);have HH:Hid _:=h;obtain⟨A,hA⟩:∃A,fol H x=A:=⟨_,rfl⟩
 rw[hA];have HA:Hid _:=hA;have HR:Hid _:=R;have HX:Hid _:=hx;clear h B0 hA R hx;go_enter Tryz.func91,Tryz.ntmps91;go_wp2_with fail;go_loopw [1,5,6] (fun u _ _ wz=>∃y:Int,u = .int .i64 y∧aP H ps y=true∧fol H y=A∧eJ wz w.heap.size 26 (.int .i64 H.half) (.int .i64 H.old) (.slice a1 H.row.length c1) (.int .i64 H.side) (.int .i64 H.top) (.slice a2 H.roots.length c2) (.slice a3 H.a7.length c3) (.slice a4 H.seen.length c4) (.int .i64 H.seed)∧Below w.heap.size w wz) (fun u _ _ _=>rk H (intOf u));case atStart=>exact⟨x,rfl,HX.out,HA.out,HT0.out,HB0.out⟩
 case round=>
  obtain⟨y,rfl,hy,hF,hT,hB⟩:=hrel;clear HT0 HB0 HA HX;obtain⟨⟨z0,z1,z2,z3,z4⟩,⟨z5,z6,z7,z8⟩,_⟩:=ag hT;have sr:=hB.size;have SA:=dG y;have HT:Hid _:=hT;have HB:Hid _:=hB;have HF:Hid _:=hF;cases dA:isA y
  ·have HE:Hid (A=y):=by show _=_;rw[←hF];exact gO (by unfold dg;rw[dA];rfl)
   rw[dA]at SA;clear hT hB hF hy dA;go_wp2_with (go_at_call 87;refine (SA _).mono ?_;clear SA;rintro e w3 ⟨rfl,hw3⟩;rw[hw3];clear hw3 w3);go_ret;exact⟨by rw[HE.out];rfl,HB.out⟩
  ·rw[dA]at SA;obtain⟨hm,_⟩:=o9 hy dA;obtain⟨j,hj,hjl,_⟩:=HR.out.plc _ hm;have hI:=(aD HH.out hB).1;have L4:=eD hI j hjl;unfold hw at L4;have HST:Hid (dg H y=false→A=y):=fun e=>by rw[←hF];exact gO e
   have HNT:Hid (dg H y=true→_):=fun e=>HR.out.note hy e
   have htn:dg H y=(uF (H.row.getD j 0)==7):=by unfold dg ntH;rw[dA,hj,Int.toNat_natCast];rfl
   have hnw:gN H y=H.row.getD (j+1) 0:=by unfold gN;rw[hj,Int.toNat_natCast]
   simp only[hnw,hj,Int.toNat_natCast]at HNT;rw[hj]at SA;generalize uF (H.row.getD j 0)=f at *;generalize uS (H.row.getD j 0)=s at *;generalize uC (H.row.getD j 0)=c at *;generalize uH (H.row.getD j 0)=g at *;generalize uP (H.row.getD j 0)=p0 at *;generalize uM (H.row.getD j 0)=m at *;have FF:=jW s f c g p0 m;by_cases h7:f=7
   ·obtain⟨hj1,n2,n3,n4,n5⟩:=HNT.out (by rw[htn,h7];rfl);subst h7;obtain⟨a',c',e',_,_,_,hcc⟩:=hI;have e1:a1=a':=by injection e'
    subst e1;obtain⟨b,off,rfl,hb,hcc⟩:=hcc (by omega);have x1:=hcc (j+1) hj1;have HN:Hid (aP H ps (H.row.getD (j+1) 0)=true∧fol H (H.row.getD (j+1) 0)=A∧rk H (H.row.getD (j+1) 0)<rk H y):=⟨n2,by rw[←n4];exact hF,n5⟩;generalize H.row.getD (j+1) 0=z at *;have hlen:=HR.out.len;have hj0:j≤1000:=by omega
    have hj1':((j:Int)+1).toNat=j+1:=by omega
    have hj2:(0:Int)≤(j:Int)+1:=by omega
    have hj3:(j:Int)+1<(H.row.length:Int):=by omega
    clear hT hB hF hy hcc e' htn hnw HST HNT n2 n3 n4 n5 dA hm hj hjl
    go_wp2_with (first
     |(go_at_call 87;refine (SA _).mono ?_;clear SA;rintro e w3 ⟨rfl,hw3⟩;rw[hw3];clear hw3 w3)
     |(go_at_call 45;refine L4.mono ?_;clear L4;rintro e w2 ⟨rfl,b2⟩;have T2:=ai HT.out b2;have x2:=(b2.cell (p:=⟨b,off+(j+1),none⟩) hb).trans x1;clear z0 z1 z2 z3 z4 z5 z6 z7 z8 x1;obtain⟨⟨z0,z1,z2,z3,z4⟩,⟨z5,z6,z7,z8⟩,_⟩:=ag T2;have HT2:Hid _:=T2;have HB2:Hid _:=HB.out.trans (b2.mono sr);clear b2 T2))
    exact⟨⟨z,rfl,HN.out.1,HN.out.2.1,HT2.out,HB2.out⟩,HN.out.2.2⟩
   ·have h7':(f != 7)=true:=by simp[h7]
    have HE:Hid (A=y):=HST.out (by rw[htn];simpa using h7);clear hT hB hF hy htn hnw HST HNT dA hm hj hjl hI
    go_wp2_with (first
     |(go_at_call 87;refine (SA _).mono ?_;clear SA;rintro e w3 ⟨rfl,hw3⟩;rw[hw3];clear hw3 w3)
     |(go_at_call 45;refine L4.mono ?_;clear L4;rintro e w2 ⟨rfl,b2⟩;have HB2:Hid _:=HB.out.trans (b2.mono sr);clear b2))
    go_ret;exact⟨by rw[HE.out];rfl,HB2.out⟩
structure Dst (w:World) (P base gr go gm:Nat) (vs:Value):Prop where
 ro:gr≠go
 rm:gr≠gm
 om:go≠gm
 pr:P≠gr
 po:P≠go
 pm:P≠gm
 sr:∀k ∈ blk vs,k≠gr∧k≠go∧k≠gm∧k≠P
 lt:gr<w.heap.size∧go<w.heap.size∧gm<w.heap.size∧P<w.heap.size
structure SS (w W:World) (P base gr go gm cr co cm nr no nm:Nat) (vs vl:Value) (H:Hp) (os xs rs ms:List Int):Prop where
 nine:eJ W P 26 (.int .i64 H.half) (.int .i64 H.old) (.slice (some ⟨gr,0,none⟩) nr cr) (.int .i64 H.side) (.int .i64 H.top) (.slice (some ⟨go,0,none⟩) no co) (.slice (some ⟨gm,0,none⟩) nm cm) vs (.int .i64 H.seed)
 row:W.ownsRow base 2 1 (.slice (some ⟨gr,0,none⟩) nr cr) nr (cellsOf xs)
 roots:W.ownsRow base 2 1 (.slice (some ⟨go,0,none⟩) no co) no (cellsOf rs)
 mour:W.ownsRow base 2 1 (.slice (some ⟨gm,0,none⟩) nm cm) nm (cellsOf ms)
 seen:rows.Own W base vs H.seen
 list:rows.Own W w.heap.size vl os
 ch:Ch [P,gr,go,gm] w W
 lr:xs.length=nr
 lo:rs.length=no
 lm:ms.length=nm
theorem SS.below {W W':World} {w:World} {P base gr go gm cr co cm nr no nm:Nat} {vs vl:Value} {H:Hp} {os:List Int} {xs rs ms:List Int} (h:SS w W P base gr go gm cr co cm nr no nm vs vl H os xs rs ms) (hb:Below W.heap.size W W'):SS w W' P base gr go gm cr co cm nr no nm vs vl H os xs rs ms:=
 ⟨ai h.nine hb,aE (S:=[]) h.row (bu hb) (by simp),aE (S:=[]) h.roots (bu hb) (by simp),aE (S:=[]) h.mour (bu hb) (by simp),aB h.seen hb,aB h.list hb,h.ch.trans (bu hb),h.lr,h.lo,h.lm⟩
theorem cN (g n c:Nat):blk (.slice (some ⟨g,0,none⟩) n c)=[g]:=rfl
theorem De (xs:List Int) (i:Nat) (x:Int):(cellsOf xs).set i (.int .i64 x)=cellsOf (xs.set i x):=by simp[cellsOf,List.map_set]
theorem SS.setRow {W:World} {w:World} {P base gr go gm cr co cm nr no nm:Nat} {vs vl:Value} {H:Hp} {os:List Int} {xs rs ms:List Int} (h:SS w W P base gr go gm cr co cm nr no nm vs vl H os xs rs ms) (d:Dst w P base gr go gm vs) (i:Nat) (x:Int):SS w (W.setCell ⟨gr,i,none⟩ (.int .i64 x)) P base gr go gm cr co cm nr no nm vs vl H os (xs.set i x) rs ms:=
 ⟨cx h.nine (aH _ gr _ _) (by simp;exact d.pr),by have:=(World.ownsRow.stored h.row i (.int .i64 x)).1;rw[De]at this;exact this,aE (S:=[gr]) h.roots (aH _ _ _ _) (fun k hk=>by rw[cN]at hk;simp at hk ⊢; have:=d.ro;omega),aE (S:=[gr]) h.mour (aH _ _ _ _) (fun k hk=>by rw[cN]at hk;simp at hk ⊢; have:=d.rm;omega),aE (S:=[gr]) h.seen (aH _ _ _ _) (fun k hk=>by simp;exact (d.sr k hk).1),aE (S:=[gr]) h.list (aH _ _ _ _) (fun k hk=>by have:=(aM h.list k hk).1;have:=d.lt.1;simp;omega),h.ch.trans ((aH _ gr _ _).mono (by simp)),by simpa using h.lr,by simpa using h.lo,by simpa using h.lm⟩
theorem SS.hp {W:World} {w:World} {P base gr go gm cr co cm nr no nm:Nat} {vs vl:Value} {H:Hp} {os:List Int} {xs rs ms:List Int} (h:SS w W P base gr go gm cr co cm nr no nm vs vl H os xs rs ms):eW W (.slice (some ⟨gr,0,none⟩) xs.length cr) (.slice (some ⟨go,0,none⟩) rs.length co) (.slice (some ⟨gm,0,none⟩) ms.length cm) vs { H with row:=xs,roots:=rs,a7:=ms }:=by
 have h1:=h.row;have h2:=h.roots;have h3:=h.mour;rw[←h.lr]at h1;rw[←h.lo]at h2;rw[←h.lm]at h3;exact⟨aj h1,aj h2,aj h3,aj h.seen⟩
theorem SS.Df {W:World} {w:World} {P base gr go gm cr co cm nr no nm:Nat} {vs vl:Value} {H:Hp} {os:List Int} {xs rs ms:List Int} (h:SS w W P base gr go gm cr co cm nr no nm vs vl H os xs rs ms) {q:Nat} (hq:q<xs.length):W.cell? ⟨gr,q,none⟩=some (.int .i64 (xs.getD q 0))∧W.frozen? ⟨gr,q,none⟩=false:=by
 refine⟨?_,World.ownsRow.frozenAt h.row q⟩
 rw[World.ownsRow.cellAt h.row q (by rw[←h.lr];omega)];simp[cellsOf,hq,List.getD_eq_getElem?_getD]
end Go.Proofs.YtocidankimefpaaGreatDoor.hp
namespace Go.Proofs.YtocidankimefpaaGreatDoor.hp
open Go.RowKit rows heads words walks
def tgt (H:Hp) (x:Int):Option Int:=if isA (fol H x)=true then some (av (fol H x)) else none
def GG (H:Hp) (S:Int→Prop) (l:List Int):Prop:=∀x ∈ l,∀a,tgt H x=some a→S a
def fm (H:Hp) (p:Int):Int:=uF (H.row.getD p.toNat 0)
def Fx (H:Hp) (p:Int):List Int:=if fm H p=0 then slotsOf H p else []
def It (H:Hp) (p:Int):List Int:=if fm H p=2 then (slotsOf H p).drop 1 else []
def Jq (H:Hp) (p:Int):Option Int:=if fm H p=2 then tgt H ((slotsOf H p).getD 0 0) else none
def GH (H:Hp) (S:Int→Prop):Prop:=GG H S (H.roots++H.a7)∧∀p,S p→GG H S (Fx H p)∧((∀k,Jq H p=some k→S k)→GG H S (It H p))
def Mk (H:Hp) (a:Int):Prop:=∀S,GH H S→S a
def pg (H:Hp) (ps:List Int) (a:Int):Prop:=a ∈ ps∧fm H a≠6∧fm H a≠7
theorem Rt.wg {H:Hp} {ps:List Int} (R:Rt H ps) {x a:Int} (hx:aP H ps x=true) (h:tgt H x=some a):pg H ps a:=by
 obtain⟨h1,h2⟩:=R.followed hx;unfold tgt at h;split at h
 ·rename_i hA
  injection h with h
  subst h;obtain⟨h3,h4⟩:=o9 h1 hA;refine⟨h3,h4,fun h7 => ?_⟩
  unfold dg ntH at h2;rw[hA,Bool.true_and]at h2;unfold fm at h7;rw[h7]at h2;cases h2
 ·cases h
theorem Rt.uh {H:Hp} {ps:List Int} (R:Rt H ps) {p:Int} (hp:p ∈ ps) {x:Int} (hx:x ∈ slotsOf H p):aP H ps x=true:=by
 have hs:=R.slots;unfold dO at hs;rw[List.all_eq_true]at hs;have h1:=hs _ hp;rw[List.all_eq_true]at h1;exact h1 x hx
theorem Rt.km {H:Hp} {ps:List Int} (R:Rt H ps) {x:Int} (hx:x ∈ H.roots++H.a7):aP H ps x=true:=by
 rcases List.mem_append.1 hx with h|h
 ·exact List.all_eq_true.1 R.roots x h
 ·have hm:=R.a7;unfold iK at hm;have:=List.all_eq_true.1 hm x h
  rw[Bool.and_eq_true]at this;exact this.2
def InM (H:Hp) (M:List Int) (x:Int):Prop:=∀a,tgt H x=some a→a ∈ M
structure MI (H:Hp) (M:List Int) (Wt:Int→List Int) (Q A:Int→Prop):Prop where
 root:∀x ∈ H.roots++H.a7,Q x∨InM H M x
 keeps:∀p ∈ M,∀x ∈ Fx H p,Q x∨InM H M x
 rest:∀p ∈ M,A p∨∀x ∈ It H p,Q x∨InM H M x∨∃k,Jq H p=some k∧k ∉ M∧x ∈ Wt k
 snd:∀p ∈ M,Mk H p
 wsnd:∀k,∀x ∈ Wt k,Mk H k→∀a,tgt H x=some a→Mk H a
 rise:eN M
theorem MI.mono {H:Hp} {M:List Int} {Wt:Int→List Int} {Q Q' A:Int→Prop} (h:MI H M Wt Q A) (hQ:∀x,Q x→Q' x∨InM H M x):MI H M Wt Q' A:=by
 have f:∀x,Q x∨InM H M x→Q' x∨InM H M x:=fun x e=>e.elim (hQ x) .inr
 refine⟨fun x hx=>f x (h.root x hx),fun p hp x hx=>f x (h.keeps p hp x hx),fun p hp => ?_,h.snd,h.wsnd,h.rise⟩
 rcases h.rest p hp with e|e
 ·exact .inl e
 ·refine .inr (fun x hx => ?_);rcases e x hx with e|e|e
  ·rcases hQ x e with e|e
   ·exact .inl e
   ·exact .inr (.inl e)
  ·exact .inr (.inl e)
  ·exact .inr (.inr e)
def meet (M:List Int) (a:Option Int):List Int:=match a with
 |none=>M
 |some a=>if a ∈ M then M else M++[a]
def aW (H:Hp) (M:List Int) (l:List Int):List Int:=l.foldl (fun M x=>meet M (tgt H x)) M
theorem tg {H:Hp} {M A:List Int} {k:Nat} (hk:k<A.length):aW H M (A.take (k+1))=meet (aW H M (A.take k)) (tgt H (A.getD k 0)):=by
 unfold aW;rw[List.take_add_one,List.foldl_append,List.getElem?_eq_getElem hk,List.getD_eq_getElem?_getD,List.getElem?_eq_getElem hk];rfl
theorem zl {M:List Int} {t:Option Int}:∃l,meet M t=M++l:=by
 unfold meet;split
 ·exact⟨[],by simp⟩
 ·split
  ·exact⟨[],by simp⟩
  ·exact⟨_,rfl⟩
theorem ie {H:Hp}:∀ {A M:List Int},∃l,aW H M A=M++l
 | [],M=>⟨[],by simp[aW]⟩
 |x :: A,M=>by
  obtain⟨l1,e1⟩:=zl (M:=M) (t:=tgt H x);obtain⟨l2,e2⟩:=ie (H:=H) (A:=A) (M:=meet M (tgt H x));exact⟨l1++l2,by show aW H (meet M (tgt H x)) A=_;rw[e2,e1,List.append_assoc]⟩
theorem Dg {M:List Int} {t:Option Int} {a:Int} (h:t=some a):a ∈ meet M t:=by
 subst h;unfold meet;simp only;split
 ·assumption
 ·simp
theorem pH {M l:List Int} {k:Nat} (h:k<M.length):(M++l).getD k 0=M.getD k 0:=by
 rw[List.getD_eq_getElem?_getD,List.getElem?_append_left h,←List.getD_eq_getElem?_getD]
def Og (H:Hp) (ps:List Int) (M:List Int):Prop:=M.Nodup∧∀a ∈ M,pg H ps a
theorem Og.meet {H:Hp} {ps M:List Int} {t:Option Int} (h:Og H ps M) (ht:∀a,t=some a→pg H ps a):Og H ps (hp.meet M t):=by
 unfold hp.meet;split
 ·exact h
 ·rename_i a
  split
  ·exact h
  ·rename_i hn
   refine⟨List.nodup_append.2 ⟨h.1,by simp,fun x hx y hy e => ?_⟩,fun x hx => ?_⟩
   ·have e2:y=a:=by simpa using hy
    exact hn (by rw[←e2,←e];exact hx)
   ·rcases List.mem_append.1 hx with hx|hx
    ·exact h.2 x hx
    ·have e2:x=a:=by simpa using hx
     rw[e2];exact ht a rfl
theorem Og.aW {H:Hp} {ps:List Int}:∀ {A M:List Int},Og H ps M→(∀x ∈ A,∀a,tgt H x=some a→pg H ps a)→Og H ps (hp.aW H M A)
 | [],M,h,_=>h
 |x :: A,M,h,hA=>Og.aW (A:=A) (h.meet (fun a ha=>hA x (List.mem_cons_self ..) a ha)) (fun y hy=>hA y (List.mem_cons_of_mem _ hy))
theorem mS:∀ {M ps:List Int},M.Nodup→(∀a ∈ M,a ∈ ps)→M.length≤ps.length
 | [],_,_,_=>Nat.zero_le _
 |a :: M,ps,h,hs=>by
  obtain⟨h1,h2⟩:=List.nodup_cons.1 h;have ha:=hs a (List.mem_cons_self ..);have:=mS (M:=M) (ps:=ps.erase a) h2 (fun b hb=>(List.mem_erase_of_ne (by rintro rfl;exact h1 hb)).2 (hs b (List.mem_cons_of_mem _ hb)))
  rw[List.length_erase_of_mem ha]at this;have hp:0<ps.length:=List.length_pos_of_mem ha;rw[List.length_cons];omega
theorem Og.len {H:Hp} {ps M:List Int} (R:Rt H ps) (h:Og H ps M):M.length≤500:=Nat.le_trans (mS h.1 (fun a ha=>(h.2 a ha).1)) (gQ R.some').2
def ordN (H:Hp):Nat→Nat→List Int→List Int
 |0,_,M=>M
 |n+1,k,M=>if k<M.length then ordN H n (k+1) (aW H M (slotsOf H (M.getD k 0))) else M
def bN (H:Hp):List Int:=ordN H 1000 0 (aW H [] (H.roots++H.a7))
theorem zm {H:Hp} {n k:Nat} {M:List Int} (h:¬k<M.length):ordN H n k M=M:=by
 cases n
 ·rfl
 ·unfold ordN;rw[if_neg h]
theorem wh {H:Hp} {k:Nat} {M:List Int} (h:k<M.length) (hk:k<1000):ordN H (1000-k) k M=ordN H (1000-(k+1)) (k+1) (aW H M (slotsOf H (M.getD k 0))):=by
 obtain⟨n,hn⟩:∃n,1000-k=n+1:=⟨1000-(k+1),by omega⟩
 rw[hn,show 1000-(k+1)=n by omega];conv=>lhs;unfold ordN
 rw[if_pos h]
theorem Rt.pI {H:Hp} {ps:List Int} (R:Rt H ps) {p:Int} (hp:p ∈ ps):∀x ∈ slotsOf H p,∀a,tgt H x=some a→pg H ps a:=fun x hx a ha=>R.wg (R.uh hp hx) ha
theorem Rt.uj {H:Hp} {ps:List Int} (R:Rt H ps):∀x ∈ H.roots++H.a7,∀a,tgt H x=some a→pg H ps a:=fun x hx a ha=>R.wg (R.km hx) ha
theorem Dh {H:Hp} {ps:List Int} (R:Rt H ps):∀ {n k:Nat} {M:List Int},Og H ps M→Og H ps (ordN H n k M)
 |0,_,_,h=>h
 |n+1,k,M,h=>by
  unfold ordN;split
  ·rename_i hk
   refine Dh R (h.aW (R.pI (h.2 _ ?_).1));rw[List.getD_eq_getElem?_getD,List.getElem?_eq_getElem hk];exact List.getElem_mem hk
  ·exact h
theorem pJ {H:Hp}:∀ {n k:Nat} {M:List Int},∃l,ordN H n k M=M++l
 |0,_,_=>⟨[],by simp[ordN]⟩
 |n+1,k,M=>by
  unfold ordN;split
  ·obtain⟨l1,e1⟩:=ie (H:=H) (A:=slotsOf H (M.getD k 0)) (M:=M);obtain⟨l2,e2⟩:=pJ (H:=H) (n:=n) (k:=k+1) (M:=aW H M (slotsOf H (M.getD k 0)));exact⟨l1++l2,by rw[e2,e1,List.append_assoc]⟩
  ·exact⟨[],by simp⟩
theorem Rt.uk {H:Hp} {ps:List Int} (R:Rt H ps):Og H ps (bN H):=Dh R (Og.aW ⟨by simp,fun a ha=>by cases ha⟩ R.uj)
theorem ig {H:Hp}:∀ {A M:List Int} {x a:Int},x ∈ A→tgt H x=some a→a ∈ aW H M A
 |y :: A,M,x,a,hx,ha=>by
  rcases List.mem_cons.1 hx with rfl|hx
  ·obtain⟨l,e⟩:=ie (H:=H) (A:=A) (M:=meet M (tgt H x));show a ∈ aW H (meet M (tgt H x)) A
   rw[e];exact List.mem_append_left _ (Dg ha)
  ·exact ig (A:=A) hx ha
theorem rA {H:Hp} {x a:Int} (hx:x ∈ H.roots++H.a7) (ha:tgt H x=some a):a ∈ bN H:=by
 obtain⟨l,e⟩:=pJ (H:=H) (n:=1000) (k:=0) (M:=aW H [] (H.roots++H.a7));unfold bN;rw[e];exact List.mem_append_left _ (ig hx ha)
theorem wj {H:Hp} {ps:List Int} (R:Rt H ps):∀ {n k:Nat} {M:List Int},Og H ps M→501≤n+k→(∀t,t<k→t<M.length→∀x ∈ slotsOf H (M.getD t 0),∀a,tgt H x=some a→a ∈ M)→∀t,t<(ordN H n k M).length→∀x ∈ slotsOf H ((ordN H n k M).getD t 0),∀a,tgt H x=some a→a ∈ ordN H n k M
 |0,k,M,h,hn,hd=>fun t ht=>hd t (by have:=h.len R;have:t<M.length:=ht;omega) ht
 |n+1,k,M,h,hn,hd=>by
  unfold ordN;split
  ·rename_i hk
   have hm:M.getD k 0 ∈ M:=by
    rw[List.getD_eq_getElem?_getD,List.getElem?_eq_getElem hk];exact List.getElem_mem hk
   obtain⟨l,e⟩:=ie (H:=H) (A:=slotsOf H (M.getD k 0)) (M:=M);refine wj R (h.aW (R.pI (h.2 _ hm).1)) (by omega) (fun t ht htl x hx a ha => ?_);by_cases e1:t=k
   ·subst e1;rw[e,pH hk]at hx;exact ig hx ha
   ·have htm:t<M.length:=by omega
    rw[e,pH htm]at hx;rw[e];exact List.mem_append_left _ (hd t (by omega) htm x hx a ha)
  ·rename_i hk
   exact fun t ht=>hd t (by omega) ht
theorem Rt.wm {H:Hp} {ps:List Int} (R:Rt H ps) {t:Nat} (ht:t<(bN H).length):∀x ∈ slotsOf H ((bN H).getD t 0),∀a,tgt H x=some a→a ∈ bN H:=
 wj R (n:=1000) (k:=0) (Og.aW ⟨by simp,fun a ha=>by cases ha⟩ R.uj) (by omega) (fun t h=>by omega) t ht
def pj (R:List Int) (a:Int):Nat:=R.findIdx (fun x=>x==a)
theorem yj {R:List Int} {a:Int} {k:Nat} (hk:k<R.length) (h:R.getD k 0=a) (hn:∀t,t<k→R.getD t 0≠a):pj R a=k:=by
 unfold pj;rw[List.findIdx_eq hk];rw[List.getD_eq_getElem?_getD,List.getElem?_eq_getElem hk]at h;refine⟨by simpa using h,fun j hj => ?_⟩
 have:=hn j hj
 rw[List.getD_eq_getElem?_getD,List.getElem?_eq_getElem (by omega)]at this;simpa using this
theorem zn {M l:List Int} {a:Int} (h:a ∈ M):pj (M++l) a=pj M a:=by
 unfold pj;rw[List.findIdx_append,if_pos (List.findIdx_lt_length_of_exists ⟨a,h,by simp⟩)]
def cW (H:Hp) (R:List Int) (x:Int):gr.Rf:=if isI (fol H x)=true then (1,iv (fol H x)) else if isA (fol H x)=true then (2,(pj R (av (fol H x)):Int)+1) else (0,0)
theorem zo {H:Hp} {M l:List Int} {x:Int} (h:∀a,tgt H x=some a→a ∈ M):cW H (M++l) x=cW H M x:=by
 unfold cW;split
 ·rfl
 ·split
  ·rename_i hA
   rw[zn (h _ (by unfold tgt;rw[if_pos hA]))]
  ·rfl
def obS (H:Hp) (R:List Int) (k:Nat):gr.Ob:=⟨(k:Int)+1,uC (H.row.getD (R.getD k 0).toNat 0),uF (H.row.getD (R.getD k 0).toNat 0),uH (H.row.getD (R.getD k 0).toNat 0),(slotsOf H (R.getD k 0)).map (cW H R)⟩
def grS (H:Hp) (R:List Int):gr.Gr:=⟨(List.range R.length).map (obS H R),H.roots.map (cW H R),H.a7.map (cW H R),(R.length:Int)+1,H.seed⟩
theorem ju {H:Hp} {R:List Int} {i:Nat} (hi:i<R.length):((List.range R.length).map (obS H R)).getD i gr.obD=obS H R i:=by
 rw[List.getD_eq_getElem?_getD,List.getElem?_map,List.getElem?_range hi];rfl
theorem GI {H:Hp} {R:List Int} {i:Nat} (hi:i<R.length):gr.atI ((List.range R.length).map (obS H R)) ((i:Int)+1)=(i:Int):=by
 refine gr.uK (k:=i) (by simpa using hi) ?_ (fun t ht => ?_)
 ·rw[ju hi];rfl
 ·rw[ju (by omega)];show ¬((t:Int)+1=(i:Int)+1)
  omega
theorem Fy {R:List Int} {a:Int} (h:a ∈ R):pj R a<R.length:=List.findIdx_lt_length_of_exists ⟨a,h,by simp⟩
theorem oe {H:Hp} {R:List Int} {x:Int} (h:∀a,tgt H x=some a→a ∈ R):gr.fH ((List.range R.length).map (obS H R)) (cW H R x)=true:=by
 unfold cW;split
 ·rename_i hI
  unfold gr.fH;rw[if_neg (show ¬(1:Int)=0 by decide),if_pos rfl]
  have hb : -100000≤iv (fol H x)∧iv (fol H x)≤100000:=by
   unfold iv;rw[if_pos hI];unfold isI at hI;simp only[Bool.and_eq_true,beq_iff_eq,decide_eq_true_eq]at hI;omega
  simp[inR,hb.1,hb.2]
 ·split
  ·rename_i hA
   have hm:=h _ (by unfold tgt;rw[if_pos hA]);unfold gr.fH;rw[if_neg (show ¬(2:Int)=0 by decide),if_neg (show ¬(2:Int)=1 by decide),GI (Fy hm)];simp
  ·unfold gr.fH;rw[if_pos rfl];rfl
theorem Iu {H:Hp} {ps:List Int} (R:Rt H ps):∀(n:Nat) (x:Int),rk H x≤n→aP H ps x=true→isA x=true→isA (fol H x)=true
 |n,x,hr,hx,hA=>by
  cases e:dg H x
  ·rw[gO e];exact hA
  ·obtain⟨_,h2,h3,h4,h5⟩:=R.note hx e;rw[h4];match n,hr with
   |0,hr=>omega
   |n+1,hr=>exact Iu R n _ (by omega) h2 h3
theorem wo {xs:List Int} {j:Nat} (h:chunk xs j≠0):hok (uS (xs.getD j 0)) (uF (xs.getD j 0)) (uC (xs.getD j 0)) (uH (xs.getD j 0)) (uP (xs.getD j 0)) (uM (xs.getD j 0))=true:=by
 unfold chunk at h;split at h
 ·rename_i h0
  rw[Bool.and_eq_true]at h0;have h1:=h0.1;rw[ok_eq,Bool.and_eq_true]at h1;unfold uS uF uC uH uP uM;rw[if_pos h0.1,if_pos h0.1,if_pos h0.1,if_pos h0.1,if_pos h0.1,if_pos h0.1];exact h1.2
 ·exact absurd rfl h
theorem mT {H:Hp} {ps:List Int} (R:Rt H ps):gr.gG (grS H (bN H)):=by
 have OG:=R.uk;have N:=(bQ R.some').1;have hl:=OG.len R;have hlen:(grS H (bN H)).objs.length=(bN H).length:=by simp[grS]
 have hob:∀i,i<(bN H).length→∃j:Nat,(bN H).getD i 0=(j:Int)∧chunk H.row j≠0∧uF (H.row.getD j 0)≠6∧uF (H.row.getD j 0)≠7∧(slotsOf H (j:Int)).length=(uS (H.row.getD j 0)).toNat:=fun i hi=>by
  have hm:(bN H).getD i 0 ∈ bN H:=by rw[List.getD_eq_getElem?_getD,List.getElem?_eq_getElem hi];exact List.getElem_mem hi
  obtain⟨h1,h6,h7⟩:=OG.2 _ hm;obtain⟨j,ej,hjl,hc⟩:=R.plc _ h1;rw[ej]at h6 h7;unfold fm at h6 h7;rw[Int.toNat_natCast]at h6 h7;have q:=ez hc h6;refine⟨j,ej,hc,h6,h7,?_⟩
  unfold slotsOf cnS;rw[Int.toNat_natCast,if_neg h7,if_neg h6,List.length_take,List.length_drop];omega
 refine⟨gr.FD ⟨by rw[hlen];omega,by show (H.roots.map _).length=6;rw[List.length_map];exact N.roots,by show (H.a7.map _).length≤40;rw[List.length_map];exact N.a7,by show 1≤((bN H).length:Int)+1;omega,by show ((bN H).length:Int)+1≤100000;omega,N.seed.1,N.seed.2⟩,fun i hi => ?_,fun i hi k hk => ?_,fun i hi => ?_,fun i hi => ?_⟩
 ·rw[hlen]at hi;obtain⟨j,ej,hc,h6,h7,hs⟩:=hob i hi;have hk:=wo hc;have hb:=iq hk;show gr.Bs ((List.range (bN H).length).map (obS H (bN H))) (((bN H).length:Int)+1) i=true
  unfold gr.Bs;rw[ju hi]
  have e1:gr.jz ((List.range (bN H).length).map (obS H (bN H))) i=(i:Int):=by
   cases i with
   |zero=>rfl
   |succ i=>
    show (((List.range (bN H).length).map (obS H (bN H))).getD i gr.obD).id=_
    rw[ju (by omega)];rfl
  rw[e1];unfold obS;simp only[ej,Int.toNat_natCast,List.length_map,hs];unfold hok at hk ⊢;rw[if_neg h6]at hk ⊢;rw[Int.toNat_of_nonneg hb.1,hk];simp only[Bool.and_eq_true,Bool.or_eq_true,beq_iff_eq,decide_eq_true_eq]at hk;have hf2:uF (H.row.getD j 0)≤2:=by omega
  rw[decide_eq_true hf2,decide_eq_true (show (i:Int)<(i:Int)+1 by omega),decide_eq_true (show (i:Int)+1<((bN H).length:Int)+1 by omega)];rfl
 ·rw[hlen]at hi;show gr.fH ((List.range (bN H).length).map (obS H (bN H))) ((((List.range (bN H).length).map (obS H (bN H))).getD i gr.obD).slots.getD k gr.bU)=true
  have hk':k<(((List.range (bN H).length).map (obS H (bN H))).getD i gr.obD).slots.length:=hk;rw[ju hi]at hk' ⊢
  have hk2:k<(slotsOf H ((bN H).getD i 0)).length:=by
   have:(obS H (bN H) i).slots.length=(slotsOf H ((bN H).getD i 0)).length:=by show (List.map _ _).length=_;rw[List.length_map]
   omega
  have e:(obS H (bN H) i).slots.getD k gr.bU=cW H (bN H) ((slotsOf H ((bN H).getD i 0))[k]):=by
   show (List.map (cW H (bN H)) (slotsOf H ((bN H).getD i 0))).getD k gr.bU=_
   rw[List.getD_eq_getElem?_getD,List.getElem?_map,List.getElem?_eq_getElem hk2];rfl
  rw[e];exact oe (fun a ha=>R.wm hi _ (List.getElem_mem hk2) a ha)
 ·show gr.fH ((List.range (bN H).length).map (obS H (bN H))) ((H.roots.map (cW H (bN H))).getD i gr.bU)=true
  have hi':i<H.roots.length:=by rw[N.roots];exact hi
  rw[List.getD_eq_getElem?_getD,List.getElem?_map,List.getElem?_eq_getElem hi'];exact oe (fun a ha=>rA (List.mem_append_left _ (List.getElem_mem hi')) ha)
 ·have hi':i<H.a7.length:=by
    have h2:i<(H.a7.map (cW H (bN H))).length:=hi;rwa [List.length_map]at h2
  show ((H.a7.map (cW H (bN H))).getD i gr.bU).1=2∧gr.fH ((List.range (bN H).length).map (obS H (bN H))) ((H.a7.map (cW H (bN H))).getD i gr.bU)=true
  rw[List.getD_eq_getElem?_getD,List.getElem?_map,List.getElem?_eq_getElem hi'];have hmo:=R.a7;unfold iK at hmo;rw[List.all_eq_true]at hmo;have h1:=hmo _ (List.getElem_mem hi');rw[Bool.and_eq_true]at h1;refine⟨?_,oe (fun a ha=>rA (List.mem_append_right _ (List.getElem_mem hi')) ha)⟩
  show (cW H (bN H) H.a7[i]).1=2
  have hA:=Iu R _ _ (Nat.le_refl _) h1.2 h1.1;unfold cW
  rw[if_neg (by
   intro hI;unfold isI at hI;unfold isA at hA;simp only[Bool.and_eq_true,beq_iff_eq,decide_eq_true_eq]at hI hA;omega),if_pos hA]
def hdW (n f:Int):Int:=pkd (uS n) f (uC n) (uH n) (uP n) (uM n)
theorem EW {n:Int} (h:ok n=true):hdW n (uF n)=n:=by
 unfold hdW uS uF uC uH uP uM;rw[if_pos h,if_pos h,if_pos h,if_pos h,if_pos h,if_pos h];unfold ok at h;rw[Bool.and_eq_true,beq_iff_eq]at h;exact h.2
def n9 (H:Hp) (R fs:List Int) (k:Nat):List Int:=(List.range H.row.length).map (fun (q:Nat)=>if pj R (q:Int)<k∧(q:Int) ∈ R then hdW (H.row.getD q 0) (fs.getD (pj R (q:Int)) 0) else H.row.getD q 0)
theorem iC (H:Hp) (R fs:List Int) (k:Nat):(n9 H R fs k).length=H.row.length:=by simp[n9]
theorem mV {H:Hp} {R fs:List Int} {k q:Nat} (hq:q<H.row.length):(n9 H R fs k).getD q 0=if pj R (q:Int)<k∧(q:Int) ∈ R then hdW (H.row.getD q 0) (fs.getD (pj R (q:Int)) 0) else H.row.getD q 0:=by
 unfold n9;rw[List.getD_eq_getElem?_getD,List.getElem?_map,List.getElem?_range hq];rfl
theorem wq (H:Hp) (R fs:List Int):n9 H R fs 0=H.row:=by
 refine List.ext_getElem (iC _ _ _ _) (fun q h1 h2 => ?_);have:=mV (R:=R) (fs:=fs) (k:=0) h2
 rw[if_neg (by omega),List.getD_eq_getElem?_getD,List.getElem?_eq_getElem h1,List.getD_eq_getElem?_getD,List.getElem?_eq_getElem h2]at this;simpa using this
theorem oh {R:List Int} (h:R.Nodup) {k:Nat} (hk:k<R.length):pj R (R.getD k 0)=k:=yj hk rfl (fun t ht e=>by
 have h1:t<R.length:=by omega
 rw[List.getD_eq_getElem?_getD,List.getElem?_eq_getElem h1,List.getD_eq_getElem?_getD,List.getElem?_eq_getElem hk]at e;exact List.pairwise_iff_getElem.1 h t k h1 hk ht e)
theorem EY {R:List Int} {a:Int} (h:a ∈ R):R.getD (pj R a) 0=a:=by
 have hl:=Fy h;rw[List.getD_eq_getElem?_getD,List.getElem?_eq_getElem hl];have:=List.findIdx_getElem (p:=fun x=>x==a) (w:=hl)
 have e:R[R.findIdx (fun x=>x==a)]=a:=by simpa using this
 exact e
theorem rB {H:Hp} {R fs:List Int} (h:R.Nodup) {k j:Nat} (hk:k<R.length) (hj:R.getD k 0=(j:Int)) (hjl:j<H.row.length):(n9 H R fs k).set j (hdW (H.row.getD j 0) (fs.getD k 0))=n9 H R fs (k+1):=by
 have hm:(j:Int) ∈ R:=by rw[←hj,List.getD_eq_getElem?_getD,List.getElem?_eq_getElem hk];exact List.getElem_mem hk
 have hi:pj R (j:Int)=k:=by rw[←hj];exact oh h hk
 refine List.ext_getElem (by rw[List.length_set,iC,iC]) (fun q h1 h2 => ?_);have hq:q<H.row.length:=by rw[←iC H R fs (k+1)];exact h2
 have e2:=mV (R:=R) (fs:=fs) (k:=k+1) hq;rw[List.getD_eq_getElem?_getD,List.getElem?_eq_getElem h2]at e2;have e2':(n9 H R fs (k+1))[q]=_:=e2;rw[e2',List.getElem_set];by_cases e:j=q
 ·subst e;rw[if_pos rfl,if_pos ⟨by omega,hm⟩,hi]
 ·rw[if_neg e];have h1':q<(n9 H R fs k).length:=by rw[iC];exact hq
  have e1:=mV (R:=R) (fs:=fs) (k:=k) hq;rw[List.getD_eq_getElem?_getD,List.getElem?_eq_getElem h1']at e1;have e1':(n9 H R fs k)[q]=_:=e1;rw[e1'];by_cases hqm:(q:Int) ∈ R
  ·have hne:pj R (q:Int)≠k:=fun he=>by
     have:=EY hqm
     rw[he,hj]at this;omega
   by_cases hlt:pj R (q:Int)<k
   ·rw[if_pos ⟨hlt,hqm⟩,if_pos ⟨by omega,hqm⟩]
   ·rw[if_neg (fun hh=>hlt hh.1),if_neg (fun hh=>by have:=hh.1;omega)]
  ·rw[if_neg (fun hh=>hqm hh.2),if_neg (fun hh=>hqm hh.2)]
theorem Di {H:Hp} {R fs:List Int} (h:R.Nodup) {k j:Nat} (hk:k<R.length) (hj:R.getD k 0=(j:Int)) (hjl:j<H.row.length) (ho:ok (H.row.getD j 0)=true) (hf:fs.getD k 0=uF (H.row.getD j 0)):n9 H R fs (k+1)=n9 H R fs k:=by
 rw[←rB h hk hj hjl,hf,EW ho];have hi:pj R (j:Int)=k:=by rw[←hj];exact oh h hk
 have e:(n9 H R fs k).getD j 0=H.row.getD j 0:=by rw[mV hjl,if_neg (by omega)]
 have hl:j<(n9 H R fs k).length:=by rw[iC];exact hjl
 refine List.ext_getElem (by rw[List.length_set]) (fun q h1 h2 => ?_);rw[List.getElem_set];by_cases eq:j=q
 ·subst eq;rw[if_pos rfl,←e,List.getD_eq_getElem?_getD,List.getElem?_eq_getElem hl];rfl
 ·rw[if_neg eq]
end Go.Proofs.YtocidankimefpaaGreatDoor.hp
