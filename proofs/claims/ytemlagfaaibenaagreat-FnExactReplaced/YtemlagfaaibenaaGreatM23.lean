/-
  Chapter 18 as the specification has it: where two roots lead (l18Two). Chapter 12 as the program has it: a set kept rising. Chapter 9 as the program has it: Objects.
-/
import Derived.Test.YtemlagfaaibenaaGreatRepS1
import Derived.Test.YtemlagfaaibenaaGreatM12
import Derived.Test.YtemlagfaaibenaaGreatHeapS7
import Derived.Test.YtemlagfaaibenaaGreatHeapI21
import Derived.Test.YtemlagfaaibenaaGreatM18
namespace Go.Proofs.YtemlagfaaibenaaGreat.hp
open Go.RowKit rows heads words walks region
set_option maxRecDepth 100000
set_option linter.unusedVariables false
set_option linter.unusedSimpArgs false
def twoC (H:Hp) (a b:Int):Int:=if (rootOk H a&&rootOk H b)=true then (if rpX H a=rpX H b then 2 else 0) else 1
theorem twoC_rep (H:Hp) (a b:Int):repC H a b=if twoC H a b=0 then (if uP (H.row.getD (rpX H a).toNat 0)=true then 3 else 0) else twoC H a b:=by
 unfold repC twoC
 split
 ·split
  ·rfl
  ·rfl
 ·rfl
set_option maxHeartbeats 16000000 in
theorem l18Two_any {w:World} {a1 a2 a3 a4:Option Addr} {c1 c2 c3 c4:Nat} {H:Hp} {ps:List Int} (h:HpAt w (.slice a1 H.row.length c1) (.slice a2 H.roots.length c2) (.slice a3 H.mourned.length c3) (.slice a4 H.seen.length c4) H) (dr:heapOk H=true) (RR:Rt H ps) (a b:Int) :
    Calls Tryz.prog 76 #[hpv H (.slice a1 H.row.length c1) (.slice a2 H.roots.length c2) (.slice a3 H.mourned.length c3) (.slice a4 H.seen.length c4),.int .i64 a,.int .i64 b] w fun e w'=>e = .returned (.tuple #[.int .i64 (if twoC H a b=0 then rpX H a else 0),.int .i64 (if twoC H a b=0 then rpX H b else 0),.int .i64 (twoC H a b)])∧Below w.heap.size w w':=by
 have LA:=l6RootH_any a
 have LB:=l6RootH_any b
 have B0:Below w.heap.size w (w.alloc (hpb H (.slice a1 H.row.length c1) (.slice a2 H.roots.length c2) (.slice a3 H.mourned.length c3) (.slice a4 H.seen.length c4))):=(Below.refl _ _).alloc (Nat.le_refl _) _
 have HB0:Hid _:=B0
 cases da:inR 0 5 a
 ·have hC:twoC H a b=1:=by unfold twoC rootOk;rw[da];simp
  rw[hC]
  simp only[da]at LA
  clear LB h RR dr da hC B0
  go_enter Tryz.func76,Tryz.ntmps76
  go_wp2_with (go_at_call 43;refine (LA _).mono ?_;clear LA;rintro e w3 ⟨rfl,hw3⟩;rw[hw3];clear hw3 w3)
  exact bodyPost_ret (v:=.tuple #[.int .i64 0,.int .i64 0,.int .i64 1]) (by simp[results,Tryz.results76,go_sem]) rfl ⟨rfl,HB0.out⟩
 simp only[da]at LA
 cases db:inR 0 5 b
 ·have hC:twoC H a b=1:=by unfold twoC rootOk;rw[db];simp
  rw[hC]
  simp only[db]at LB
  clear h RR dr da db hC B0
  go_enter Tryz.func76,Tryz.ntmps76
  go_wp2_with (first
   |(go_at_call 43;refine (LA _).mono ?_;clear LA;rintro e w3 ⟨rfl,hw3⟩;rw[hw3];clear hw3 w3)
   |(go_at_call 43;refine (LB _).mono ?_;clear LB;rintro e w3 ⟨rfl,hw3⟩;rw[hw3];clear hw3 w3))
  exact bodyPost_ret (v:=.tuple #[.int .i64 0,.int .i64 0,.int .i64 1]) (by simp[results,Tryz.results76,go_sem]) rfl ⟨rfl,HB0.out⟩
 simp only[db]at LB
 have N:=(places_facts RR.some').1
 have root:∀r:Int,inR 0 5 r=true→∃k:Nat,r=k∧k<H.roots.length∧wordIn H ps (H.roots.getD k 0)=true:=fun r hr=>by
  simp only[inR,Bool.and_eq_true,decide_eq_true_eq]at hr
  have hk:r.toNat<H.roots.length:=by rw[N.roots];omega
  refine⟨r.toNat,by omega,hk,?_⟩
  have:=RR.roots
  rw[List.all_eq_true]at this
  refine this _ ?_
  rw[List.getD_eq_getElem?_getD,List.getElem?_eq_getElem hk];exact List.getElem_mem hk
 obtain⟨k,rfl,hkl,hwx⟩:=root a da
 obtain⟨m,rfl,hml,hwy⟩:=root b db
 obtain⟨x,hxx⟩:∃x,H.roots.getD k 0=x:=⟨_,rfl⟩
 obtain⟨y,hyy⟩:∃y,H.roots.getD m 0=y:=⟨_,rfl⟩
 obtain⟨fx,hfx⟩:∃fx,fol H x=fx:=⟨_,rfl⟩
 obtain⟨fy,hfy⟩:∃fy,fol H y=fy:=⟨_,rfl⟩
 rw[hxx]at hwx
 rw[hyy]at hwy
 have ra:rootOk H (k:Int)=isA fx:=by unfold rootOk;rw[dr,da,Int.toNat_natCast,hxx,hfx];rfl
 have rb:rootOk H (m:Int)=isA fy:=by unfold rootOk;rw[dr,db,Int.toNat_natCast,hyy,hfy];rfl
 have xa:rpX H (k:Int)=av fx:=by unfold rpX;rw[Int.toNat_natCast,hxx,hfx]
 have xb:rpX H (m:Int)=av fy:=by unfold rpX;rw[Int.toNat_natCast,hyy,hfy]
 obtain⟨C,hC⟩:∃C,twoC H (k:Int) (m:Int)=C:=⟨_,rfl⟩
 have HC:Hid (C=if (isA fx&&isA fy)=true then (if av fx=av fy then 2 else 0) else 1):=by
  show _=_
  rw[←hC]
  unfold twoC
  rw[ra,rb,xa,xb]
 rw[hC,xa,xb]
 have HFX:Hid (∀V,HpAt V (.slice a1 H.row.length c1) (.slice a2 H.roots.length c2) (.slice a3 H.mourned.length c3) (.slice a4 H.seen.length c4) H→Calls Tryz.prog 45 #[hpv H (.slice a1 H.row.length c1) (.slice a2 H.roots.length c2) (.slice a3 H.mourned.length c3) (.slice a4 H.seen.length c4),.int .i64 x] V fun e w'=>e = .returned (.int .i64 fx)∧Below V.heap.size V w'):=fun V hV=>by
  have:=l10Follow_any hV RR x hwx
  rwa [hfx]at this
 have HFY:Hid (∀V,HpAt V (.slice a1 H.row.length c1) (.slice a2 H.roots.length c2) (.slice a3 H.mourned.length c3) (.slice a4 H.seen.length c4) H→Calls Tryz.prog 45 #[hpv H (.slice a1 H.row.length c1) (.slice a2 H.roots.length c2) (.slice a3 H.mourned.length c3) (.slice a4 H.seen.length c4),.int .i64 y] V fun e w'=>e = .returned (.int .i64 fy)∧Below V.heap.size V w'):=fun V hV=>by
  have:=l10Follow_any hV RR y hwy
  rwa [hfy]at this
 have SX:Hid (∀V,_):=fun V=>sAddrOf_any fx V
 have SY:Hid (∀V,_):=fun V=>sAddrOf_any fy V
 have hN:=nine_new w H (.slice a1 H.row.length c1) (.slice a2 H.roots.length c2) (.slice a3 H.mourned.length c3) (.slice a4 H.seen.length c4)
 obtain⟨ao,oo,ev,hrb,_⟩:=ints_cell h.2.1 hkl
 subst ev
 have HALL:Hid (∀V,Below (w.alloc (hpb H (.slice a1 H.row.length c1) (.slice (some ⟨ao,oo,none⟩) H.roots.length c2) (.slice a3 H.mourned.length c3) (.slice a4 H.seen.length c4))).heap.size (w.alloc (hpb H (.slice a1 H.row.length c1) (.slice (some ⟨ao,oo,none⟩) H.roots.length c2) (.slice a3 H.mourned.length c3) (.slice a4 H.seen.length c4))) V→Nine V w.heap.size 27 (.int .i64 H.half) (.int .i64 H.old) (.slice a1 H.row.length c1) (.int .i64 H.side) (.int .i64 H.top) (.slice (some ⟨ao,oo,none⟩) H.roots.length c2) (.slice a3 H.mourned.length c3) (.slice a4 H.seen.length c4) (.int .i64 H.seed)∧HpAt V (.slice a1 H.row.length c1) (.slice (some ⟨ao,oo,none⟩) H.roots.length c2) (.slice a3 H.mourned.length c3) (.slice a4 H.seen.length c4) H∧V.cell? ⟨ao,oo+k,none⟩=some (.int .i64 x)∧V.cell? ⟨ao,oo+m,none⟩=some (.int .i64 y)∧Below w.heap.size w V):=fun V hV=>by
  have b:=B0.trans (hV.mono B0.size)
  have hV2:=hpAt_below h b
  obtain⟨rb',ro',e1,_,y0⟩:=ints_cell hV2.2.1 hkl
  injection e1 with e1
  injection e1 with e1 e2 _
  subst e1 e2
  obtain⟨rb',ro',e1,_,y1⟩:=ints_cell hV2.2.1 hml
  injection e1 with e1
  injection e1 with e1 e2 _
  subst e1 e2
  exact⟨nine_below hN hV,hV2,by rw[←hxx];exact y0,by rw[←hyy];exact y1,b⟩
 have hkl':(k:Int)<(H.roots.length:Int):=by omega
 have hml':(m:Int)<(H.roots.length:Int):=by omega
 clear h dr RR N root da db hwx hwy hxx hyy hfx hfy ra rb xa xb hC B0 HB0 hN hrb
 go_enter Tryz.func76,Tryz.ntmps76
 go_upto_region 3 with (first
     |(go_at_call 43;refine (LA _).mono ?_;clear LA;rintro e w3 ⟨rfl,hw3⟩;rw[hw3];clear hw3 w3)
     |(go_at_call 43;refine (LB _).mono ?_;clear LB;rintro e w3 ⟨rfl,hw3⟩;rw[hw3];clear hw3 w3))
 generalize w.alloc _=w1 at *
 obtain⟨T1,h1,x0,y0,_⟩:=HALL.out w1 (Below.refl _ _)
 obtain⟨⟨Z0,Z1,Z2,Z3,Z4⟩,⟨Z5,Z6,Z7,Z8⟩⟩:=nine_grow T1
 have Y0:=cell_grow x0
 have HF1:Hid (∀x':Ext w1.heap.size w1,Calls Tryz.prog 45 #[hpv H (.slice a1 H.row.length c1) (.slice (some ⟨ao,oo,none⟩) H.roots.length c2) (.slice a3 H.mourned.length c3) (.slice a4 H.seen.length c4),.int .i64 x] x'.to fun e w''=>e = .returned (.int .i64 fx)∧∃y':Ext w1.heap.size w1,w''=y'.to):=fun x'=>calls_grow (Nat.le_refl _) (HFX.out _ (hpAt_below h1 x'.below))
 have HS1:Hid (∀x':Ext w1.heap.size w1,Calls Tryz.prog 44 #[.int .i64 fx] x'.to fun e w''=>e = .returned (.tuple #[.int .i64 (av fx),.bool (isA fx)])∧∃y':Ext w1.heap.size w1,w''=y'.to):=fun x'=>(SX.out _).mono fun e w' ⟨he,hw⟩=>⟨he,x',hw⟩
 clear T1 h1 x0 y0 SX HFX
 haveI:=ext_any w1
 refine region_grow (n:=w1.heap.size) (by kernel_rfl) (by kernel_rfl) ?_
 repeat (go_big_quiet_step (first|(go_at_call 45;exact HF1.out _)|(go_at_call 44;exact HS1.out _)))
 refine wpQuiet_nil ?_
 intro _ hw'
 obtain⟨x',rfl⟩:=hw'
 have HB2:Hid _:=x'.below
 clear Z0 Z1 Z2 Z3 Z4 Z5 Z6 Z7 Z8 Y0 HF1 HS1
 generalize x'.to=w2 at *
 clear x' this
 go_upto_region 4 with fail
 obtain⟨T1,h1,x0,y0,_⟩:=HALL.out w2 HB2.out
 obtain⟨⟨Z0,Z1,Z2,Z3,Z4⟩,⟨Z5,Z6,Z7,Z8⟩⟩:=nine_grow T1
 have Y0:=cell_grow y0
 have HF1:Hid (∀x':Ext w2.heap.size w2,Calls Tryz.prog 45 #[hpv H (.slice a1 H.row.length c1) (.slice (some ⟨ao,oo,none⟩) H.roots.length c2) (.slice a3 H.mourned.length c3) (.slice a4 H.seen.length c4),.int .i64 y] x'.to fun e w''=>e = .returned (.int .i64 fy)∧∃y':Ext w2.heap.size w2,w''=y'.to):=fun x'=>calls_grow (Nat.le_refl _) (HFY.out _ (hpAt_below h1 x'.below))
 have HS1:Hid (∀x':Ext w2.heap.size w2,Calls Tryz.prog 44 #[.int .i64 fy] x'.to fun e w''=>e = .returned (.tuple #[.int .i64 (av fy),.bool (isA fy)])∧∃y':Ext w2.heap.size w2,w''=y'.to):=fun x'=>(SY.out _).mono fun e w' ⟨he,hw⟩=>⟨he,x',hw⟩
 clear T1 h1 x0 y0 SY HFY
 haveI:=ext_any w2
 refine region_grow (n:=w2.heap.size) (by kernel_rfl) (by kernel_rfl) ?_
 repeat (go_big_quiet_step (first|(go_at_call 45;exact HF1.out _)|(go_at_call 44;exact HS1.out _)))
 refine wpQuiet_nil ?_
 intro _ hw'
 obtain⟨x',rfl⟩:=hw'
 have HB3:Hid _:=HB2.out.trans (x'.below.mono HB2.out.size)
 clear Z0 Z1 Z2 Z3 Z4 Z5 Z6 Z7 Z8 Y0 HF1 HS1
 generalize x'.to=w3 at *
 clear x' this
 obtain⟨_,_,_,_,bw⟩:=HALL.out w3 HB3.out
 have HBW:Hid _:=bw
 clear bw HALL HB3 HB2
 cases ix:isA fx
 ·obtain rfl:C=1:=by rw[HC.out,ix];simp
  clear HC
  go_wp2
  exact bodyPost_ret (v:=.tuple #[.int .i64 0,.int .i64 0,.int .i64 1]) (by simp[results,Tryz.results76,go_sem]) rfl ⟨rfl,HBW.out⟩
 cases iy:isA fy
 ·obtain rfl:C=1:=by rw[HC.out,iy];simp
  clear HC
  go_wp2
  exact bodyPost_ret (v:=.tuple #[.int .i64 0,.int .i64 0,.int .i64 1]) (by simp[results,Tryz.results76,go_sem]) rfl ⟨rfl,HBW.out⟩
 by_cases e:av fx=av fy
 ·obtain rfl:C=2:=by rw[HC.out,ix,iy];simp[e]
  rw[e]
  clear HC
  go_wp2
  exact bodyPost_ret (v:=.tuple #[.int .i64 0,.int .i64 0,.int .i64 2]) (by simp[results,Tryz.results76,go_sem]) rfl ⟨rfl,HBW.out⟩
 ·obtain rfl:C=0:=by rw[HC.out,ix,iy];simp[e]
  clear HC
  go_wp2
  exact bodyPost_ret (v:=.tuple #[.int .i64 (av fx),.int .i64 (av fy),.int .i64 0]) (by simp[results,Tryz.results76,go_sem]) rfl ⟨rfl,HBW.out⟩
end Go.Proofs.YtemlagfaaibenaaGreat.hp
namespace Go.Proofs.YtemlagfaaibenaaGreat.hp
open Go.RowKit rows heads words walks
set_option maxRecDepth 100000
set_option linter.unusedVariables false
set_option linter.unusedSimpArgs false
end Go.Proofs.YtemlagfaaibenaaGreat.hp
