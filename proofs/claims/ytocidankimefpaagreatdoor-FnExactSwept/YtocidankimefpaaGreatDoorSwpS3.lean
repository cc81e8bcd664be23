/-
  Chapter 15 as the specification has it: what is not marked is swept away.
  Made from the template SwpS3 (mkswps3.py).
-/
import Derived.Test.YtocidankimefpaaGreatDoorM30
import Derived.Test.YtocidankimefpaaGreatDoorM13
import Derived.Test.YtocidankimefpaaGreatDoorM9
import Derived.Test.YtocidankimefpaaGreatDoorM21
import Derived.Test.YtocidankimefpaaGreatDoorM14
import Derived.Test.YtocidankimefpaaGreatDoorM1
import Derived.Test.YtocidankimefpaaGreatDoorM2
import Derived.BigQuiet
namespace Go.Proofs.YtocidankimefpaaGreatDoor.hp
open Go.RowKit rows heads words walks region
set_option maxRecDepth 100000
set_option linter.unusedVariables false
set_option linter.unusedSimpArgs false
theorem lastC {P:Program} {o:Oper} {D:Nat→Bool} {a0:Act} {u:Nat→Value} {W:World} {Q:Exit→Act→World→Prop} {dk:Nat} {f:FuncId} {args:Array Value} (hd:o.dst=some dk) (hD:D dk=true) (hrun:(execOp (ovr D a0 u).eval o).run P W = .ok (.enter f args) W) (hc:Calls P f args W fun e w'=>∃v,e = .returned v∧Q .normal (ovr D a0 (upd u dk v)) w') :
    o.wp P (ovr D a0 u) W (fun a' W'=>∃u',a'=ovr D a0 u'∧Q .normal (ovr D a0 u') W') Q:=wp_call hrun (hc.mono fun _ _ ⟨v,he,h⟩=>⟨v,he,upd u dk v,put_in hd hD u v,h⟩)
theorem chR {w w':World} {g:Nat} (h:w.grownBy w' (some g)):Ch [g] w w':=⟨h.os,h.tape,h.output,h.size,fun k hk hn=>h.block k hk (fun e=>hn (by injection e with e;simp[e]))⟩
theorem SS.rowCh {W W':World} {w:World} {P base gr go gm cr co cm nr no nm:Nat} {vs vl:Value} {H:Hp} {os xs ys rs ms:List Int} (h:SS w W P base gr go gm cr co cm nr no nm vs vl H os xs rs ms) (d:Dst w P base gr go gm vs) (hrow:W'.ownsRow base 2 1 (.slice (some ⟨gr,0,none⟩) nr cr) nr (cellsOf ys)) (hy:ys.length=nr) (hc:Ch [gr] W W'):SS w W' P base gr go gm cr co cm nr no nm vs vl H os ys rs ms:=
 ⟨nine_ch h.nine hc (by simp;exact d.pr),hrow,row_ch h.roots hc (fun k hk=>by rw[blk_of]at hk;simp at hk ⊢; have:=d.ro;omega),row_ch h.mour hc (fun k hk=>by rw[blk_of]at hk;simp at hk ⊢; have:=d.rm;omega),row_ch h.seen hc (fun k hk=>by simp;exact (d.sr k hk).1),row_ch h.list hc (fun k hk=>by have:=(blk_lt h.list k hk).1;have:=d.lt.1;simp;omega),h.ch.trans (hc.mono (by simp)),hy,h.lo,h.lm⟩
def SwA (w:World) (P base:Nat) (S:List Nat) (vr vo vm:Value) (H:Hp) (e:Ending) (w':World):Prop:=∃u,e = .returned (.tuple #[])∧Nine w' P 26 (.int .i64 H.half) (.int .i64 H.old) vr (.int .i64 H.side) (.int .i64 H.top) vo vm u (.int .i64 H.seed)∧OwnH w' base vr vo vm u H∧Ch S w w'
theorem ss_own {w W:World} {P base gr go gm cr co cm nr no nm:Nat} {vs vl:Value} {H:Hp} {os xs rs ms:List Int} (h:SS w W P base gr go gm cr co cm nr no nm vs vl H os xs rs ms) (d:Dst w P base gr go gm vs):OwnH W base (.slice (some ⟨gr,0,none⟩) nr cr) (.slice (some ⟨go,0,none⟩) no co) (.slice (some ⟨gm,0,none⟩) nm cm) vs { H with row:=xs,roots:=rs,mourned:=ms }:=by
 have h1:=h.row
 have h2:=h.roots
 have h3:=h.mour
 refine⟨⟨?_,?_,?_,h.seen⟩,?_⟩
 ·show World.ownsRow _ _ _ _ _ _ _
  rw[h.lr];exact h1
 ·show World.ownsRow _ _ _ _ _ _ _
  rw[h.lo];exact h2
 ·show World.ownsRow _ _ _ _ _ _ _
  rw[h.lm];exact h3
 ·unfold hblk
  rw[blk_of,blk_of,blk_of]
  have d1:=d.ro
  have d2:=d.rm
  have d3:=d.om
  have d4:=d.sr
  have nb:(blk vs).Nodup:=by unfold blk;cases vs.ownBlock<;>simp
  refine List.nodup_append.2 ⟨by simp;omega,nb,fun a ha b hb e => ?_⟩
  have:=d4 b hb
  have ha':a=gr∨a=go∨a=gm:=by simpa using ha
  omega
def dW9 (k:Nat):Nat:=match k with
 |0=>60
 |1=>61
 |2=>62
 |3=>63
 |4=>64
 |5=>65
 |6=>66
 |7=>67
 |8=>68
 |9=>69
 |10=>70
 |_=>2000
theorem dW9_inj:∀k,k<11→∀j,j<11→dW9 j=dW9 k→j=k:=by decide
def DW9 (s:Nat):Bool:=s==60 || s==61 || s==62 || s==63 || s==64 || s==65 || s==66 || s==67 || s==68 || s==69 || s==70 || s==71
def FW9 (H:Hp) (OS:List Int) (P g1 cr ob oo oc yz j s n B:Nat) (k:Nat) (t:Value) (_:World):Prop:=
 match k with
 |0=>t = .pointer (some ⟨P,0,none⟩)
 |1=>t = .pointer (some ⟨P,0,none⟩)
 |2=>t = .pointer (some ⟨P,2,none⟩)
 |3=>t = .slice (some ⟨g1,0,none⟩) H.row.length cr
 |4=>t = .slice (some ⟨ob,oo,none⟩) OS.length oc
 |5=>t = .int .i64 (yz:Int)
 |6=>t = .pointer (some ⟨ob,oo+yz,none⟩)
 |7=>t = .int .i64 (j:Int)
 |8=>t = .pointer (some ⟨B,0,none⟩)
 |9=>t = .int .i64 (s:Int)
 |10=>t = .int .i64 (n:Int)
 |_=>False
def dW15 (k:Nat):Nat:=match k with
 |0=>82
 |1=>83
 |2=>84
 |3=>85
 |4=>86
 |5=>87
 |6=>88
 |7=>89
 |8=>90
 |9=>91
 |10=>92
 |11=>93
 |_=>2000
theorem dW15_inj:∀k,k<12→∀j,j<12→dW15 j=dW15 k→j=k:=by decide
def DW15 (s:Nat):Bool:=s==82 || s==83 || s==84 || s==85 || s==86 || s==87 || s==88 || s==89 || s==90 || s==91 || s==92 || s==93 || s==94
def FW15 (H:Hp) (OS:List Int) (P g1 cr ob oo oc yz j q B:Nat) (a6:Option Addr) (c6:Nat) (k:Nat) (t:Value) (_:World):Prop:=
 match k with
 |0=>t = .pointer (some ⟨P,0,none⟩)
 |1=>t = .pointer (some ⟨P,0,none⟩)
 |2=>t = .pointer (some ⟨P,2,none⟩)
 |3=>t = .slice (some ⟨g1,0,none⟩) H.row.length cr
 |4=>t = .slice (some ⟨ob,oo,none⟩) OS.length oc
 |5=>t = .int .i64 (yz:Int)
 |6=>t = .pointer (some ⟨ob,oo+yz,none⟩)
 |7=>t = .int .i64 (j:Int)
 |8=>t = .pointer (some ⟨B,0,none⟩)
 |9=>t = .int .i64 (q:Int)
 |10=>t=hv (q:Int) 0 0 0 false false
 |11=>t = .slice a6 q c6
 |_=>False
def dW16 (k:Nat):Nat:=match k with
 |0=>95
 |1=>96
 |2=>97
 |3=>98
 |4=>99
 |5=>100
 |6=>101
 |7=>102
 |8=>103
 |9=>104
 |10=>105
 |11=>106
 |12=>107
 |13=>108
 |14=>109
 |15=>110
 |16=>111
 |17=>112
 |18=>113
 |_=>2000
theorem dW16_inj:∀k,k<19→∀j,j<19→dW16 j=dW16 k→j=k:=by decide
def DW16 (s:Nat):Bool:=s==95 || s==96 || s==97 || s==98 || s==99 || s==100 || s==101 || s==102 || s==103 || s==104 || s==105 || s==106 || s==107 || s==108 || s==109 || s==110 || s==111 || s==112 || s==113 || s==114
def FW16 (H:Hp) (P g1 cr F T:Nat) (k:Nat) (t:Value) (_:World):Prop:=
 match k with
 |0=>t = .pointer (some ⟨P,0,none⟩)
 |1=>t = .pointer (some ⟨P,0,none⟩)
 |2=>t = .pointer (some ⟨P,2,none⟩)
 |3=>t = .slice (some ⟨g1,0,none⟩) H.row.length cr
 |4=>t = .pointer (some ⟨P,0,none⟩)
 |5=>t = .pointer (some ⟨P,0,none⟩)
 |6=>t = .pointer (some ⟨P,0,none⟩)
 |7=>t = .int .i64 H.half
 |8=>t = .int .i64 (F:Int)
 |9=>t = .pointer (some ⟨P,0,none⟩)
 |10=>t = .pointer (some ⟨P,0,none⟩)
 |11=>t = .pointer (some ⟨P,0,none⟩)
 |12=>t = .int .i64 H.half
 |13=>t = .int .i64 (F:Int)
 |14=>t = .pointer (some ⟨P,0,none⟩)
 |15=>t = .pointer (some ⟨P,0,none⟩)
 |16=>t = .pointer (some ⟨P,1,none⟩)
 |17=>t = .int .i64 H.old
 |18=>t = .int .i64 (T:Int)
 |_=>False
set_option maxHeartbeats 64000000 in
theorem l15Sweep_any {w:World} {P base g1 g2 g3 cr co cm:Nat} {vs:Value} {H:Hp} {ps L:List Int} (RR:Rt H ps) (hL:IsMarks H L) (d:Dst w P base g1 g2 g3 vs)
    (hS:SS w w P base g1 g2 g3 cr co cm H.row.length H.roots.length H.mourned.length vs (.slice none 0 0) H [] H.row H.roots H.mourned) (hbs:base≤w.heap.size) (hs:hpSize H≤1048576) :
    Calls Tryz.prog 30 #[.pointer (some ⟨P,0,none⟩)] w fun e w'=>SwA w P base [P,g1,g2,g3] (.slice (some ⟨g1,0,none⟩) H.row.length cr) (.slice (some ⟨g2,0,none⟩) H.roots.length co) (.slice (some ⟨g3,0,none⟩) H.mourned.length cm) (swpA H ps L) e w':=by
 obtain⟨sa,sn,sc,rfl⟩:=ints_slice (own_ints hS.seen)
 have hA:=apart_of RR.some'
 have hris:Rising (objL H ps):=(places_rising RR.some').filter _
 have hrl:=RR.len
 have N:=(places_facts RR.some').1
 have hol:L.length≤500:=RR.marks_len hL.1 (fun a ha=>(hL.2 a).1 ha)
 have hos:(objL H ps).length≤500:=Nat.le_trans (objL_len _ _) (places_plc RR.some').2
 have MK:=l13Marks_any (show HpAt w _ _ _ _ H from hS.hp) RR hL
 have HST:Hid (∀V,HpAt V (.slice (some ⟨g1,0,none⟩) H.row.length cr) (.slice (some ⟨g2,0,none⟩) H.roots.length co) (.slice (some ⟨g3,0,none⟩) H.mourned.length cm) (.slice sa sn sc) H→Calls Tryz.prog 58 #[hpv H (.slice (some ⟨g1,0,none⟩) H.row.length cr) (.slice (some ⟨g2,0,none⟩) H.roots.length co) (.slice (some ⟨g3,0,none⟩) H.mourned.length cm) (.slice sa sn sc)] V fun e w'=>e = .returned (.bool (isStr H ps))∧Below V.heap.size V w'):=fun V hV=>l15Straight_any hV RR hs
 have HCL:Hid (∀V la lc,HpAt V (.slice (some ⟨g1,0,none⟩) H.row.length cr) (.slice (some ⟨g2,0,none⟩) H.roots.length co) (.slice (some ⟨g3,0,none⟩) H.mourned.length cm) (.slice sa sn sc) H→IntsAt V (.slice la L.length lc) L→Calls Tryz.prog 59 #[hpv H (.slice (some ⟨g1,0,none⟩) H.row.length cr) (.slice (some ⟨g2,0,none⟩) H.roots.length co) (.slice (some ⟨g3,0,none⟩) H.mourned.length cm) (.slice sa sn sc),.slice la L.length lc] V fun e w'=>e = .returned (.bool (isCl H L))∧Below V.heap.size V w'):=fun V la lc hV hl=>l15Closed_any hV RR hL hl
 have HOB:Hid (∀V,HpAt V (.slice (some ⟨g1,0,none⟩) H.row.length cr) (.slice (some ⟨g2,0,none⟩) H.roots.length co) (.slice (some ⟨g3,0,none⟩) H.mourned.length cm) (.slice sa sn sc) H→Calls Tryz.prog 60 #[hpv H (.slice (some ⟨g1,0,none⟩) H.row.length cr) (.slice (some ⟨g2,0,none⟩) H.roots.length co) (.slice (some ⟨g3,0,none⟩) H.mourned.length cm) (.slice sa sn sc)] V fun e w'=>∃v',e = .returned v'∧rows.Own w' V.heap.size v' (objL H ps)∧Below V.heap.size V w'):=fun V hV=>l9Objects_any hV RR.some'
 have HAN:Hid (isStr H ps=false∨isCl H L=false→swpA H ps L=H):=fun h=>by
  unfold swpA
  rw[if_neg]
  rcases h with h|h<;>rw[h]<;>simp
 have HAY:Hid (isStr H ps=true→isCl H L=true→swpA H ps L=swpF H ps L):=fun h1 h2=>by unfold swpA;rw[h1,h2];rfl
 have HPO:Hid (∀i,i<(objL H ps).length→∃j s n:Nat,(objL H ps).getD i 0=(j:Int)∧uS (H.row.getD j 0)=(s:Int)∧s≤20∧sz (s:Int)=(n:Int)∧2≤n∧s<n∧j+n≤H.row.length∧(swpRow H L ((objL H ps).take i)).length=H.row.length∧(swpRow H L ((objL H ps).take i)).getD j 0=H.row.getD j 0∧(swpRow H L ((objL H ps).take (i+1))).length=H.row.length∧((j:Int) ∈ L→swpRow H L ((objL H ps).take (i+1))=swpRow H L ((objL H ps).take i))∧((j:Int) ∉ L→(j:Int)<2*H.half→swpRow H L ((objL H ps).take (i+1))=put (swpRow H L ((objL H ps).take i)) j (pk (s:Int) 0 0 0 false false) (List.replicate s 2) s n)∧((j:Int) ∉ L→¬(j:Int)<2*H.half→swpRow H L ((objL H ps).take (i+1))=freeR (swpRow H L ((objL H ps).take i)) j n)):=fun i hi=>by
  have hm:(objL H ps).getD i 0 ∈ objL H ps:=by rw[List.getD_eq_getElem?_getD,List.getElem?_eq_getElem hi];exact List.getElem_mem hi
  obtain⟨hpp,h6⟩:=objL_mem hm
  obtain⟨j,ej,hc,hjl⟩:=hA.nat _ hpp
  rw[ej,Int.toNat_natCast]at h6
  obtain⟨e,u0,u1,u2⟩:=chunk_sz hc h6
  have hz:=sz_at u0 u1
  have I:=swI (L:=L) hA (fun p hp=>hp) hris i (by omega)
  have I':=swI (L:=L) hA (fun p hp=>hp) hris (i+1) (by omega)
  have hap:=apart_rising hA (fun p hp=>(objL_mem hp).1) hris hi
  rw[ej,Int.toNat_natCast]at hap
  have hnx:=swp_next (H:=H) (L:=L) hi
  rw[ej]at hnx
  unfold swpS at hnx
  refine⟨j,(uS (H.row.getD j 0)).toNat,(sz (uS (H.row.getD j 0))).toNat,ej,by omega,by omega,by rw[Int.toNat_of_nonneg u0];omega,by omega,by omega,u2,I.len,I.same j (fun p hp _ => .inr (hap p hp)),I'.len,fun hin=>by rw[hnx,if_pos hin],fun hin hh => ?_,fun hin hh => ?_⟩
  ·rw[hnx,if_neg hin]
   unfold dropR blankR
   rw[if_pos hh,Int.toNat_natCast,Int.toNat_of_nonneg u0]
  ·rw[hnx,if_neg hin]
   unfold dropR
   rw[if_neg hh,Int.toNat_natCast,e]
 obtain⟨rr,uu,ll,F,T,_,hF,hT,hTl,hsl,HCH,erow,hCl,hpl,hup,hNums,hnumB⟩:=swp_places (L:=L) RR.some' hris
 have HCHN:Hid _:=HCH
 have HROW:Hid _:=erow
 have HCLN:Hid _:=hCl
 have HSLN:Hid _:=hsl
 have HUP:Hid _:=hup
 have HNU:Hid _:=hNums
 have HRW0:Hid (swpRow H L ((objL H ps).take 0)=H.row):=rfl
 have HRWE:Hid (swpRow H L ((objL H ps).take (objL H ps).length)=swpRow H L (objL H ps)):=by show _=_;rw[List.take_length]
 have HHF:Hid (8≤H.half∧H.half≤200∧8≤H.old∧H.old≤400):=by
  have:=N.half
  have:=N.old
  have:=N.half1
  have:=N.old1
  show _∧_
  omega
 have HDS:Hid _:=d
 have HS0:Hid _:=hS
 have hPl:=d.lt
 have HG1:Hid (base≤g1):=(blk_lt hS.row g1 (by rw[blk_of];simp)).1
 obtain⟨⟨z0,z1,z2,z3,z4⟩,⟨z5,z6,z7,z8⟩,_⟩:=nine_cells hS.nine
 clear RR hL d hS hA hris N HCH erow hCl hsl hup hNums hpl hnumB
 generalize hOS:objL H ps=OS at *
 clear hOS
 go_enter Tryz.func30,Tryz.ntmps30
 go_upto_region 1 with (go_at_call 57;refine MK.mono ?_;clear MK z0 z1 z2 z3 z4 z5 z6 z7 z8;rintro e w1 ⟨vl,rfl,O1,b1⟩;have HS1:Hid (SS w w1 P base g1 g2 g3 cr co cm H.row.length H.roots.length H.mourned.length (.slice sa sn sc) vl H L H.row H.roots H.mourned):=(HS0.out.below b1).newList O1;obtain⟨la,lc,ela,_,_,_,_⟩:=own_ints O1;subst ela;clear O1 b1 HS0)
 obtain⟨⟨z0,z1,z2,z3,z4⟩,⟨z5,z6,z7,z8⟩,_⟩:=nine_cells HS1.out.nine
 have ST:=HST.out w1 (show HpAt w1 _ _ _ _ H from HS1.out.hp)
 clear HST
 cases hbS:isStr H ps
 ·rw[hbS]at ST
  have HE:Hid _:=HAN.out (.inl hbS)
  clear hbS HAN HAY HCL
  go_wp2_with (go_at_call 58;refine ST.mono ?_;clear ST;rintro e w2 ⟨rfl,b2⟩;have HS2:Hid _:=HS1.out.below b2;clear b2)
  refine bodyPost_ret (results_none rfl _ _ _) rfl ?_
  rw[HE.out]
  exact⟨_,rfl,HS2.out.nine,ss_own HS2.out HDS.out,HS2.out.ch⟩
 rw[hbS]at ST
 have HBS:Hid _:=hbS
 clear hbS
 cases hbC:isCl H L
 ·have HE:Hid _:=HAN.out (.inr hbC)
  have HBC:Hid _:=hbC
  clear hbC HAN HAY
  go_wp2_with (first
   |(go_at_call 58;refine ST.mono ?_;clear ST z0 z1 z2 z3 z4 z5 z6 z7 z8;rintro e w2 ⟨rfl,b2⟩;have HS2:Hid _:=HS1.out.below b2;obtain⟨⟨z0,z1,z2,z3,z4⟩,⟨z5,z6,z7,z8⟩,_⟩:=nine_cells HS2.out.nine;have CL:=HCL.out w2 la lc (show HpAt w2 _ _ _ _ H from HS2.out.hp) (own_ints HS2.out.list);rw[HBC.out]at CL;clear b2)
   |(go_at_call 59;refine CL.mono ?_;clear CL;rintro e w3 ⟨rfl,b3⟩;have HS3:Hid _:=HS2.out.below b3;clear b3))
  refine bodyPost_ret (results_none rfl _ _ _) rfl ?_
  rw[HE.out]
  exact⟨_,rfl,HS3.out.nine,ss_own HS3.out HDS.out,HS3.out.ch⟩
 have HE:Hid _:=HAY.out HBS.out hbC
 have HBC:Hid _:=hbC
 clear hbC HAN HAY
 go_upto_region 3 with (first
  |(go_at_call 58;refine ST.mono ?_;clear ST z0 z1 z2 z3 z4 z5 z6 z7 z8;rintro e w2 ⟨rfl,b2⟩;have HS2:Hid _:=HS1.out.below b2;obtain⟨⟨z0,z1,z2,z3,z4⟩,⟨z5,z6,z7,z8⟩,_⟩:=nine_cells HS2.out.nine;have CL:=HCL.out w2 la lc (show HpAt w2 _ _ _ _ H from HS2.out.hp) (own_ints HS2.out.list);rw[HBC.out]at CL;clear b2)
  |(go_at_call 59;refine CL.mono ?_;clear CL z0 z1 z2 z3 z4 z5 z6 z7 z8;rintro e w3 ⟨rfl,b3⟩;have HS3:Hid _:=HS2.out.below b3;obtain⟨⟨z0,z1,z2,z3,z4⟩,⟨z5,z6,z7,z8⟩,_⟩:=nine_cells HS3.out.nine;have OB:=HOB.out w3 (show HpAt w3 _ _ _ _ H from HS3.out.hp);clear b3)
  |(go_at_call 60;refine OB.mono ?_;clear OB z0 z1 z2 z3 z4 z5 z6 z7 z8;rintro e w4 ⟨vo',rfl,O4,b4⟩;have HS4:Hid _:=HS3.out.below b4;have HO4:Hid _:=O4;obtain⟨oa,oc,eoa,_,_,_,_⟩:=own_ints O4;subst eoa;clear O4 b4))
 have hw3:w.heap.size≤w3.heap.size:=HS3.out.ch.size
 have hw4:=HS4.out.ch.size
 clear HS1 HS2 HCL HOB HBC HBS
 go_wp2_with fail
 go_loopw [4,5,6,7] (fun v _ _ _ wr=>∃y:Nat,y≤OS.length∧v = .int .i64 (y:Int)∧SS w wr P base g1 g2 g3 cr co cm H.row.length H.roots.length H.mourned.length (.slice sa sn sc) (.slice la L.length lc) H L (swpRow H L (OS.take y)) H.roots H.mourned∧rows.Own wr w3.heap.size (.slice oa OS.length oc) OS) (fun v _ _ _ _=>OS.length-(intOf v).toNat)
 case atStart=>exact⟨0,Nat.zero_le _,rfl,by rw[HRW0.out];exact HS4.out,HO4.out⟩
 case round=>
  obtain⟨y,hy,rfl,hS,hO⟩:=hrel
  clear HS4 HO4
  have HS:Hid _:=hS
  have HO:Hid _:=hO
  by_cases hlt:y<OS.length
  ·have hlt':(y:Int)<(OS.length:Int):=by omega
   obtain⟨j,s,n,hj,hus,hs20,hsz,hn2,hsn,hjn,hxl,hxj,hyl,nIn,nBl,nFr⟩:=HPO.out y hlt
   obtain⟨ob,oo,ev,hob,x0⟩:=ints_cell (own_ints hO) hlt
   subst ev
   rw[hj]at x0
   have HIN:Hid _:=nIn
   have HBL:Hid _:=nBl
   have HFR:Hid _:=nFr
   have HXL:Hid _:=hxl
   have HYL:Hid _:=hyl
   have HXJ:Hid _:=hxj
   have HUS:Hid _:=hus
   have HSZ:Hid _:=hsz
   have hobw:w3.heap.size≤ob:=(blk_lt hO ob (by simp[blk,Value.ownBlock])).1
   have HH:=l1Has_any (own_ints hS.list) (by omega) (j:Int)
   clear hS hO nIn nBl nFr hj hxl hyl hxj hus hsz
   generalize swpRow H L (OS.take y)=xs at *
   obtain⟨ys,hys⟩:∃ys,swpRow H L (OS.take (y+1))=ys:=⟨_,rfl⟩
   rw[hys]at HYL HIN HBL HFR
   have HYS:Hid _:=hys
   clear hys
   by_cases hin:(j:Int) ∈ L
   ·have HE1:Hid _:=HIN.out hin
    rw[decide_eq_true hin]at HH
    clear hin HIN HBL HFR
    go_wp2_with (go_at_call 61;refine HH.mono ?_;clear HH;rintro e w5 ⟨rfl,hw5⟩;rw[hw5];clear hw5 w5)
    exact⟨⟨y+1,by omega,by go_num,by rw[HYS.out,HE1.out];exact HS.out,HO.out⟩,by simp[intOf];omega⟩
   have HNI:Hid _:=hin
   have X0:Hid _:=x0
   rw[decide_eq_false hin]at HH
   clear hin HIN
   have hgw:g1<wr.heap.size:=by have:=HS.out.ch.size;omega
   have hwr:w.heap.size≤wr.heap.size:=HS.out.ch.size
   have hw3r:w3.heap.size≤wr.heap.size:=Nat.le_trans (Nat.le_of_lt (Nat.lt_of_le_of_lt hobw hob)) (Nat.le_refl _)
   obtain⟨⟨z0,z1,z2,z3,z4⟩,⟨z5,z6,z7,z8⟩,_⟩:=nine_cells HS.out.nine
   have BA:=(Below.refl wr.heap.size wr).alloc (Nat.le_refl _) (hb 0 0 0 0 false false)
   have z2':=(BA.cell (p:=⟨P,2,none⟩) (World.block_lt_of_cell? _ _ z2)).trans z2
   have x0':=(BA.cell (p:=⟨ob,oo+y,none⟩) hob).trans x0
   have HL4:Hid (∀W,Below wr.heap.size wr W→Calls Tryz.prog 45 #[(.slice (some ⟨g1,0,none⟩) H.row.length cr),.int .i64 (j:Int)] W fun e w'=>e = .returned (hv (s:Int) (uF (H.row.getD j 0)) (uC (H.row.getD j 0)) (uH (H.row.getD j 0)) (uP (H.row.getD j 0)) (uM (H.row.getD j 0)))∧Below W.heap.size W w'):=fun W hW=>by
    have S':=HS.out.below hW
    have L':=l4Head_any (show IntsAt W _ xs from S'.hp.1) j (by rw[HXL.out];omega)
    rw[S'.lr]at L'
    unfold hw at L'
    rw[HXJ.out,HUS.out]at L'
    exact L'
   have HA:Hid (∀W,Below (wr.alloc (hb 0 0 0 0 false false)).heap.size (wr.alloc (hb 0 0 0 0 false false)) W→HeadAt W wr.heap.size 0 0 0 0 false false):=fun W hW=>headAt_below (headAt_new wr 0 0 0 0 false false) hW
   have HBA:Hid _:=BA
   clear BA
   generalize uF (H.row.getD j 0)=f at *
   generalize uC (H.row.getD j 0)=c at *
   generalize uH (H.row.getD j 0)=g at *
   generalize uP (H.row.getD j 0)=p at *
   generalize uM (H.row.getD j 0)=m at *
   go_upto_region 7 with (go_at_call 61;refine HH.mono ?_;clear HH;rintro e w5 ⟨rfl,hw5⟩;rw[hw5];clear hw5 w5)
   go_cut [4,5] from 29 to 94 (fun i' q wy=>i' = .int .i64 (y:Int)∧∃B,q = .pointer (some ⟨B,0,none⟩)∧HeadAt wy B (s:Int) f c g p m∧wr.heap.size≤B∧Below wr.heap.size wr wy)
   case first=>
    go_region_law (first
     |(go_simp;go_at_call 45;refine (HL4.out _ HBA.out.drew).mono ?_;clear HL4;rintro e w6 ⟨rfl,b6⟩;have b7:Below (wr.alloc (hb 0 0 0 0 false false)).heap.size (wr.alloc (hb 0 0 0 0 false false)) w6:=⟨b6.os,b6.tape,b6.output,b6.size,b6.block⟩;have TA:=HA.out w6 b7;obtain⟨t0',t1',t2',t3',t4',t5',tf⟩:=headAt_cells TA;have f0:=tf 0;have f1:=tf 1;have f2':=tf 2;have f3:=tf 3;have f4:=tf 4;have f5:=tf 5;have HEnd:Hid (HeadAt (((((((w6.setCell ⟨wr.heap.size,0,none⟩ (.int .i64 (s:Int))).setCell ⟨wr.heap.size,1,none⟩ (.int .i64 f)).setCell ⟨wr.heap.size,2,none⟩ (.int .i64 c)).setCell ⟨wr.heap.size,3,none⟩ (.int .i64 g)).setCell ⟨wr.heap.size,4,none⟩ (.bool p)).setCell ⟨wr.heap.size,5,none⟩ (.bool m))) wr.heap.size (s:Int) f c g p m∧wr.heap.size≤wr.heap.size∧Below wr.heap.size wr (((((((w6.setCell ⟨wr.heap.size,0,none⟩ (.int .i64 (s:Int))).setCell ⟨wr.heap.size,1,none⟩ (.int .i64 f)).setCell ⟨wr.heap.size,2,none⟩ (.int .i64 c)).setCell ⟨wr.heap.size,3,none⟩ (.int .i64 g)).setCell ⟨wr.heap.size,4,none⟩ (.bool p)).setCell ⟨wr.heap.size,5,none⟩ (.bool m)))):=⟨six_set TA (s:Int) f c g p m,Nat.le_refl _,six_below (HBA.out.trans (b7.mono HBA.out.size)) (Nat.le_refl _) (s:Int) f c g p m⟩;clear b6 b7 TA tf)
     |(go_simp;go_at_call 45;refine (HL4.out _ (Below.refl _ _).drew).mono ?_;clear HL4;rintro e w6 ⟨rfl,b6⟩;have b7:Below wr.heap.size wr w6:=⟨b6.os,b6.tape,b6.output,b6.size,b6.block⟩;have HEnd:Hid (HeadAt (w6.alloc (hb (s:Int) f c g p m)) w6.heap.size (s:Int) f c g p m∧wr.heap.size≤w6.heap.size∧Below wr.heap.size wr (w6.alloc (hb (s:Int) f c g p m))):=⟨headAt_new w6 (s:Int) f c g p m,b7.size,b7.alloc b7.size (hb (s:Int) f c g p m)⟩;clear b6 b7))
    all_goals (go_wp2_with fail)
    all_goals go_meet
    all_goals exact⟨rfl,_,rfl,HEnd.out.1,HEnd.out.2.1,HEnd.out.2.2⟩
   obtain⟨rfl,B,rfl,hHd,hBw,hBy⟩:=hcut
   have HBY:Hid _:=hBy
   have HHd:Hid _:=hHd
   have x0c:=(hBy.cell (p:=⟨ob,oo+y,none⟩) hob).trans x0
   have N8:=nine_below HS.out.nine hBy
   clear z0 z1 z2 z3 z4 z5 z6 z7 z8 z2' x0 x0' HL4 HA HBA hHd hBy
   obtain⟨⟨z0,z1,z2,z3,z4⟩,⟨z5,z6,z7,z8⟩,_⟩:=nine_cells N8
   have hhf:=HHF.out
   have iw:IntKind.i64.wrap (2*H.half)=2*H.half:=by rw[IntKind.wrap_i64];omega
   clear N8
   by_cases hge:(j:Int)<2*H.half
   ·have hge':¬2*H.half≤(j:Int):=by omega
    have HE1:Hid _:=HBL.out HNI.out hge
    clear HBL HFR
    go_upto_region 8 with fail
    go_quiet (fail)
    clear z0 z1 z2 z3 z4 z5 z6 z7 z8
    generalize hwd:wc.drewN _=wd at *
    have BQ:Below wc.heap.size wc wd:=by rw[←hwd];exact bel_of_drewN ⟨_,rfl⟩
    clear hwd
    have HBD:Hid _:=HBY.out.trans (BQ.mono HBY.out.size)
    have HHe:Hid _:=headAt_below HHd.out BQ
    have hwdr:wr.heap.size≤wd.heap.size:=HBD.out.size
    clear HBY HHd BQ x0c
    have HSd:Hid _:=HS.out.below HBD.out
    have HOd:Hid _:=own_below HO.out HBD.out
    have hobd:ob<wd.heap.size:=Nat.lt_of_lt_of_le hob hwdr
    have hgd:g1<wd.heap.size:=Nat.lt_of_lt_of_le hgw hwdr
    have hBd:B<wd.heap.size:=lt_of_block HHe.out
    have HX0d:Hid _:=(HBD.out.cell (p:=⟨ob,oo+y,none⟩) hob).trans X0.out
    have BE:Below wd.heap.size wd (wd.alloc (.cells #[] 2)):=(Below.refl _ _).alloc (Nat.le_refl _) _
    have HOE:Hid (rows.Own (wd.alloc (.cells #[] 2)) wd.heap.size (.slice (some ⟨wd.heap.size,0,none⟩) 0 0) (List.replicate 0 2)):=full_own (xs:=[]) (heap_alloc_new wd (.cells #[] 2)) (Nat.le_refl _) (by decide)
    have HBE:Hid _:=BE
    clear BE
    go_wp2_with fail
    go_loopw [6,7] (fun v6 v7 wz=>∃q:Nat,q≤s∧v7 = .int .i64 (q:Int)∧∃a6 c6,v6 = .slice a6 q c6∧rows.Own wz wd.heap.size (.slice a6 q c6) (List.replicate q 2)∧Below wd.heap.size wd wz) (fun _ v7 _=>s-(intOf v7).toNat)
    case atStart=>exact⟨0,Nat.zero_le _,rfl,_,_,rfl,HOE.out,HBE.out⟩
    case round=>
     obtain⟨q,hq,rfl,a6,c6,rfl,o6,hBz⟩:=hrel
     clear HOE HBE
     obtain⟨t0,t1,t2,t3,t4,t5,_⟩:=headAt_cells (headAt_below HHe.out hBz)
     have HO6:Hid _:=o6
     have HBZ:Hid _:=hBz
     by_cases hql:q<s
     ·have hql':(q:Int)<(s:Int):=by omega
      have BX:Below wr.heap.size wr (wr.alloc (.cells #[.int .i64 2] 2)):=(Below.refl _ _).alloc (Nat.le_refl _) _
      have HOX:Hid ((wr.alloc (.cells #[.int .i64 2] 2)).ownsRow wd.heap.size 2 1 (.slice a6 q c6) q (cellsOf (List.replicate q 2))):=by
       have:=own_below o6 BX
       show World.ownsRow _ _ _ _ _ _ _
       have e9:(List.replicate q (2:Int)).length=q:=List.length_replicate
       rw[←e9]
       rw[e9]
       have t9:World.ownsRow _ _ _ _ _ _ _:=this
       rwa [e9]at t9
      have HNW:Hid ((wr.alloc (.cells #[.int .i64 2] 2)).heap[wr.heap.size]? = some (.cells #[.int .i64 2] 2 (0,0))):=heap_alloc_new wr _
      have hbx:wd.heap.size≤(wr.alloc (.cells #[.int .i64 2] 2)).heap.size:=Nat.le_trans hBz.size BX.size
      have HBX2:Hid _:=BX
      have HBL6:Hid _:=blk_lt o6
      clear o6 hBz BX
      go_wp2_with (refine wpList_appG (base:=wd.heap.size) (es:=List.replicate q 2) (x:=2) (n:=q) (vb:=wr.heap.size) hbx HOX.out HNW.out (by omega) rfl (.tmp 79) (.tmp 80) rfl rfl rfl ?_;intro a' c' w9 own9 ch9 at9;have HW9:Hid (rows.Own w9 wd.heap.size (.slice a' (q+1) c') (List.replicate (q+1) 2)∧Below wd.heap.size wd w9):=⟨by (rw[List.replicate_succ'];show World.ownsRow _ _ _ _ _ _ _;rw[List.length_append,List.length_replicate];exact own9),HBZ.out.trans ((HBX2.out.mono HBZ.out.size).trans (below_ch ch9 hbx (fun k hk=>(HBL6.out k hk).1)))⟩;clear own9 ch9 at9)
      exact⟨⟨q+1,by omega,by go_num,_,_,rfl,HW9.out.1,HW9.out.2⟩,by simp[intOf];omega⟩
     ·have hql':¬(q:Int)<(s:Int):=by omega
      have e:q=s:=by omega
      subst e
      obtain⟨wz,hwz⟩:∃wz,wz=wr:=⟨_,rfl⟩
      subst hwz
      have HSz:Hid _:=HSd.out.below HBZ.out
      have HOz:Hid _:=own_below HOd.out HBZ.out
      have HHz:Hid _:=headAt_below HHe.out HBZ.out
      have x0z:=(HBZ.out.cell (p:=⟨ob,oo+y,none⟩) hobd).trans HX0d.out
      have hobz:ob<wz.heap.size:=Nat.lt_of_lt_of_le hobd HBZ.out.size
      have HOK0:Hid (hok (q:Int) 0 0 0 false false=true):=by
       show _=_
       unfold hok
       rw[if_neg (by decide)]
       simp[inR]
       omega
      have HLF:Hid (∀W,Below wz.heap.size wz W→Calls Tryz.prog 64 #[.slice (some ⟨g1,0,none⟩) H.row.length cr,.int .i64 (j:Int),hv (q:Int) 0 0 0 false false,.slice a6 q c6] W fun e w'=>(∃v',e = .returned v')∧w'.ownsRow base 2 1 (.slice (some ⟨g1,0,none⟩) H.row.length cr) H.row.length (cellsOf (put xs j (pk (q:Int) 0 0 0 false false) (List.replicate q 2) q n))∧W.grownBy w' (some g1)):=fun W hW=>by
       have L':=l4Write_any (k:=j) (xs:=xs) (ys:=List.replicate q 2) (vs:=.slice a6 q c6) (s:=(q:Int)) (f:=0) (c:=0) (h:=0) (p:=false) (m:=false) (HSz.out.below hW).row (by rw[HXL.out]) (by omega) (by have:=hW.size;have:=HBZ.out.size;omega) (fun W' hg=>own_ints (row_ch (own_below HO6.out hW) (chR hg) (fun z hz e=>by have:=(blk_lt HO6.out z hz).1;have e2:z=g1:=(by simpa using e);omega))) HOK0.out (by rw[List.length_replicate]) n HSZ.out (by omega)
       rw[List.length_replicate]at L'
       exact L'
      clear hBz o6
      go_upto_region 15 with fail
      clear t0 t1 t2 t3 t4 t5
      generalize hA0:(Act.mk _ [])=A0
      have e0:A0.tmps.getD 0 undef = .pointer (some ⟨P,0,none⟩):=by rw[←hA0];rfl
      have e3:A0.tmps.getD 3 undef = .slice (some ⟨ob,oo,none⟩) OS.length oc:=by rw[←hA0];rfl
      have e4:A0.tmps.getD 4 undef = .int .i64 (y:Int):=by rw[←hA0];rfl
      have e5:A0.tmps.getD 5 undef = .pointer (some ⟨B,0,none⟩):=by rw[←hA0];rfl
      have e6:A0.tmps.getD 6 undef = .slice a6 q c6:=by rw[←hA0];rfl
      have sz:A0.tmps.size=122:=by rw[←hA0];rfl
      refine wp_region_last (by kernel_rfl) DW15 (by simp) ?_ 12 rfl dW15 dW15_inj (FW15 H OS P g1 cr ob oo oc y j q B a6 c6) ?_ ?_ ?_ ?_
      ·intro k o ho
       have hk:k<13:=(Array.getElem?_eq_some_iff.1 ho).1
       rcases (show k=0∨k=1∨k=2∨k=3∨k=4∨k=5∨k=6∨k=7∨k=8∨k=9∨k=10∨k=11∨k=12 by omega) with rfl|rfl|rfl|rfl|rfl|rfl|rfl|rfl|rfl|rfl|rfl|rfl|rfl<;>(obtain rfl:=Option.some.inj ho;simp)
      ·intro k t W W' hb h
       match k,h with
       |0,h=>exact h
       |1,h=>exact h
       |2,h=>exact h
       |3,h=>exact h
       |4,h=>exact h
       |5,h=>exact h
       |6,h=>exact h
       |7,h=>exact h
       |8,h=>exact h
       |9,h=>exact h
       |10,h=>exact h
       |11,h=>exact h
       |_+12,h=>exact h.elim
      ·intro l hC kk hkk
       have CL:=hC 12 _ rfl (fun h=>by omega)
       have l3:l 3=true:=CL ⟨3,.data⟩ (by simp) (by simp[Region.binds])
       have l7:l 7=true:=CL ⟨7,.data⟩ (by simp) (by simp[Region.binds])
       have l10:l 10=true:=CL ⟨10,.data⟩ (by simp) (by simp[Region.binds])
       have l11:l 11=true:=CL ⟨11,.data⟩ (by simp) (by simp[Region.binds])
       have l2:l 2=true:=hC 3 _ rfl (fun _=>l3) ⟨2,.data⟩ (by simp) (by simp[Region.binds])
       have l1:l 1=true:=hC 2 _ rfl (fun _=>l2) ⟨1,.data⟩ (by simp) (by simp[Region.binds])
       have l0:l 0=true:=hC 1 _ rfl (fun _=>l1) ⟨0,.data⟩ (by simp) (by simp[Region.binds])
       have l6:l 6=true:=hC 7 _ rfl (fun _=>l7) ⟨6,.data⟩ (by simp) (by simp[Region.binds])
       have l4:l 4=true:=hC 6 _ rfl (fun _=>l6) ⟨4,.data⟩ (by simp) (by simp[Region.binds])
       have l5:l 5=true:=hC 6 _ rfl (fun _=>l6) ⟨5,.data⟩ (by simp) (by simp[Region.binds])
       have l9:l 9=true:=hC 10 _ rfl (fun _=>l10) ⟨9,.data⟩ (by simp) (by simp[Region.binds])
       have l8:l 8=true:=hC 9 _ rfl (fun _=>l9) ⟨8,.data⟩ (by simp) (by simp[Region.binds])
       rcases (show kk=0∨kk=1∨kk=2∨kk=3∨kk=4∨kk=5∨kk=6∨kk=7∨kk=8∨kk=9∨kk=10∨kk=11 by omega) with rfl|rfl|rfl|rfl|rfl|rfl|rfl|rfl|rfl|rfl|rfl|rfl
       ·exact l0
       ·exact l1
       ·exact l2
       ·exact l3
       ·exact l4
       ·exact l5
       ·exact l6
       ·exact l7
       ·exact l8
       ·exact l9
       ·exact l10
       ·exact l11
      ·intro k o u W hk ho hB hF
       have ev:∀s,DW15 s=true→s<122→(ovr DW15 A0 u).tmps[s]?.getD undef=u s:=fun s h1 h2=>(getD_at _ _).symm.trans (eval_in h1 (by omega))
       have o0:(ovr DW15 A0 u).tmps[0]?.getD undef=_:=(getD_at _ _).symm.trans ((eval_out (D:=DW15) (a0:=A0) (u:=u) (s:=0) rfl (by omega)).trans e0)
       have o3:(ovr DW15 A0 u).tmps[3]?.getD undef=_:=(getD_at _ _).symm.trans ((eval_out (D:=DW15) (a0:=A0) (u:=u) (s:=3) rfl (by omega)).trans e3)
       have o4:(ovr DW15 A0 u).tmps[4]?.getD undef=_:=(getD_at _ _).symm.trans ((eval_out (D:=DW15) (a0:=A0) (u:=u) (s:=4) rfl (by omega)).trans e4)
       have o5:(ovr DW15 A0 u).tmps[5]?.getD undef=_:=(getD_at _ _).symm.trans ((eval_out (D:=DW15) (a0:=A0) (u:=u) (s:=5) rfl (by omega)).trans e5)
       have o6:(ovr DW15 A0 u).tmps[6]?.getD undef=_:=(getD_at _ _).symm.trans ((eval_out (D:=DW15) (a0:=A0) (u:=u) (s:=6) rfl (by omega)).trans e6)
       have SW:=HSz.out.below hB
       obtain⟨⟨_,_,z2,_,_⟩,_,_⟩:=nine_cells SW.nine
       have xl:=(hB.cell (p:=⟨ob,oo+y,none⟩) hobz).trans x0z
       obtain⟨t0,t1,t2,t3,t4,t5,_⟩:=headAt_cells (headAt_below HHz.out hB)
       clear SW
       rcases (show k=0∨k=1∨k=2∨k=3∨k=4∨k=5∨k=6∨k=7∨k=8∨k=9∨k=10∨k=11 by omega) with rfl|rfl|rfl|rfl|rfl|rfl|rfl|rfl|rfl|rfl|rfl|rfl
       all_goals obtain rfl:=Option.some.inj ho
       ·refine plainV (v:=.pointer (some ⟨P,0,none⟩)) rfl rfl ?_ rfl
        simp only[execOp]
        go_simp
        try go_num
        try (rw[IntKind.wrap_i64];omega)
       ·have x0:=(ev 82 rfl (by decide)).trans (hF 0 (by decide) (by simp[Region.binds]))
        refine plainV (v:=.pointer (some ⟨P,0,none⟩)) rfl rfl ?_ rfl
        simp only[execOp]
        go_simp
        try go_num
        try (rw[IntKind.wrap_i64];omega)
       ·have x1:=(ev 83 rfl (by decide)).trans (hF 1 (by decide) (by simp[Region.binds]))
        refine plainV (v:=.pointer (some ⟨P,2,none⟩)) rfl rfl ?_ rfl
        simp only[execOp]
        go_simp
        try go_num
        try (rw[IntKind.wrap_i64];omega)
       ·have x2:=(ev 84 rfl (by decide)).trans (hF 2 (by decide) (by simp[Region.binds]))
        refine plainV (v:=.slice (some ⟨g1,0,none⟩) H.row.length cr) rfl rfl ?_ rfl
        simp only[execOp]
        go_simp
        try go_num
        try (rw[IntKind.wrap_i64];omega)
       ·refine plainV (v:=.slice (some ⟨ob,oo,none⟩) OS.length oc) rfl rfl ?_ rfl
        simp only[execOp]
        go_simp
        try go_num
        try (rw[IntKind.wrap_i64];omega)
       ·refine plainV (v:=.int .i64 (y:Int)) rfl rfl ?_ rfl
        simp only[execOp]
        go_simp
        try go_num
        try (rw[IntKind.wrap_i64];omega)
       ·have x4:=(ev 86 rfl (by decide)).trans (hF 4 (by decide) (by simp[Region.binds]))
        have x5:=(ev 87 rfl (by decide)).trans (hF 5 (by decide) (by simp[Region.binds]))
        refine plainV (v:=.pointer (some ⟨ob,oo+y,none⟩)) rfl rfl ?_ rfl
        simp only[execOp]
        go_simp
        try go_num
        try (rw[IntKind.wrap_i64];omega)
       ·have x6:=(ev 88 rfl (by decide)).trans (hF 6 (by decide) (by simp[Region.binds]))
        refine plainV (v:=.int .i64 (j:Int)) rfl rfl ?_ rfl
        simp only[execOp]
        go_simp
        try go_num
        try (rw[IntKind.wrap_i64];omega)
       ·refine plainV (v:=.pointer (some ⟨B,0,none⟩)) rfl rfl ?_ rfl
        simp only[execOp]
        go_simp
        try go_num
        try (rw[IntKind.wrap_i64];omega)
       ·have x8:=(ev 90 rfl (by decide)).trans (hF 8 (by decide) (by simp[Region.binds]))
        refine plainV (v:=.int .i64 (q:Int)) rfl rfl ?_ rfl
        simp only[execOp]
        go_simp
        try go_num
        try (rw[IntKind.wrap_i64];omega)
       ·have x9:=(ev 91 rfl (by decide)).trans (hF 9 (by decide) (by simp[Region.binds]))
        refine plainV (v:=hv (q:Int) 0 0 0 false false) rfl rfl ?_ rfl
        simp only[execOp]
        go_simp
        try go_num
        try (rw[IntKind.wrap_i64];omega)
       ·refine plainV (v:=.slice a6 q c6) rfl rfl ?_ rfl
        simp only[execOp]
        go_simp
        try go_num
        try (rw[IntKind.wrap_i64];omega)
      ·intro o u W ho hB hF
       obtain rfl:=Option.some.inj ho
       have ev:∀s,DW15 s=true→s<122→(ovr DW15 A0 u).tmps[s]?.getD undef=u s:=fun s h1 h2=>(getD_at _ _).symm.trans (eval_in h1 (by omega))
       have o0:(ovr DW15 A0 u).tmps[0]?.getD undef=_:=(getD_at _ _).symm.trans ((eval_out (D:=DW15) (a0:=A0) (u:=u) (s:=0) rfl (by omega)).trans e0)
       have o3:(ovr DW15 A0 u).tmps[3]?.getD undef=_:=(getD_at _ _).symm.trans ((eval_out (D:=DW15) (a0:=A0) (u:=u) (s:=3) rfl (by omega)).trans e3)
       have o4:(ovr DW15 A0 u).tmps[4]?.getD undef=_:=(getD_at _ _).symm.trans ((eval_out (D:=DW15) (a0:=A0) (u:=u) (s:=4) rfl (by omega)).trans e4)
       have o5:(ovr DW15 A0 u).tmps[5]?.getD undef=_:=(getD_at _ _).symm.trans ((eval_out (D:=DW15) (a0:=A0) (u:=u) (s:=5) rfl (by omega)).trans e5)
       have o6:(ovr DW15 A0 u).tmps[6]?.getD undef=_:=(getD_at _ _).symm.trans ((eval_out (D:=DW15) (a0:=A0) (u:=u) (s:=6) rfl (by omega)).trans e6)
       have SW:=HSz.out.below hB
       obtain⟨⟨_,_,z2,_,_⟩,_,_⟩:=nine_cells SW.nine
       have xl:=(hB.cell (p:=⟨ob,oo+y,none⟩) hobz).trans x0z
       obtain⟨t0,t1,t2,t3,t4,t5,_⟩:=headAt_cells (headAt_below HHz.out hB)
       clear SW
       have x3:=(ev 85 rfl (by decide)).trans (hF 3 (by decide))
       have x7:=(ev 89 rfl (by decide)).trans (hF 7 (by decide))
       have x10:=(ev 92 rfl (by decide)).trans (hF 10 (by decide))
       have x11:=(ev 93 rfl (by decide)).trans (hF 11 (by decide))
       refine lastC (f:=64) (args:=#[.slice (some ⟨g1,0,none⟩) H.row.length cr,.int .i64 (j:Int),hv (q:Int) 0 0 0 false false,.slice a6 q c6]) rfl rfl ?_ ((HLF.out W hB).mono ?_)
       ·simp only[execOp]
        go_simp
       ·rintro e w' ⟨⟨v9,rfl⟩,r9,g9⟩
        refine⟨v9,rfl,?_⟩
        have HSW:Hid _:=(HSz.out.below hB).rowCh HDS.out r9 (by rw[←HE1.out];exact HYL.out) (chR g9)
        have HOW:Hid _:=row_ch (own_below HOz.out hB) (chR g9) (fun z hz e=>by have:=(blk_lt HOz.out z hz).1;have e2:z=g1:=(by simpa using e);omega)
        clear r9 g9 xl z2 hF x3 x7 x10 x11 ev o0 o3 o4 o5 o6 e0 e3 e4 e5 e6 sz t0 t1 t2 t3 t4 t5
        subst hA0
        simp[ovr,DW15,List.range,List.range.loop]
        go_wp2
        exact⟨⟨y+1,by omega,by go_num,by rw[HYS.out,HE1.out];exact HSW.out,HOW.out⟩,by simp[intOf];omega⟩
   ·have hge':2*H.half≤(j:Int):=by omega
    have HE1:Hid _:=HFR.out HNI.out (by omega)
    clear HBL HFR
    go_upto_region 8 with fail
    go_quiet (fail)
    clear z0 z1 z2 z3 z4 z5 z6 z7 z8
    generalize hwd:wc.drewN _=wd at *
    have BQ:Below wc.heap.size wc wd:=by rw[←hwd];exact bel_of_drewN ⟨_,rfl⟩
    clear hwd
    have HBD:Hid _:=HBY.out.trans (BQ.mono HBY.out.size)
    have HHe:Hid _:=headAt_below HHd.out BQ
    have hwdr:wr.heap.size≤wd.heap.size:=HBD.out.size
    clear HBY HHd BQ x0c
    have HSd:Hid _:=HS.out.below HBD.out
    have HOd:Hid _:=own_below HO.out HBD.out
    have x0d:=(HBD.out.cell (p:=⟨ob,oo+y,none⟩) hob).trans X0.out
    have hobd:ob<wd.heap.size:=Nat.lt_of_lt_of_le hob hwdr
    have HLF:Hid (∀W,Below wd.heap.size wd W→Calls Tryz.prog 62 #[.slice (some ⟨g1,0,none⟩) H.row.length cr,.int .i64 (j:Int),.int .i64 (n:Int)] W fun e w'=>(∃v',e = .returned v')∧w'.ownsRow base 2 1 (.slice (some ⟨g1,0,none⟩) H.row.length cr) H.row.length (cellsOf (freeR xs j n))∧W.grownBy w' (some g1)):=fun W hW=>l4Free_g (k:=j) (n:=n) (HSd.out.below hW).row (by rw[HXL.out]) (by omega) HG1.out (by have:=hW.size;omega) hn2 (by omega)
    go_upto_region 9 with fail
    generalize hA0:(Act.mk _ [])=A0
    have e0:A0.tmps.getD 0 undef = .pointer (some ⟨P,0,none⟩):=by rw[←hA0];rfl
    have e3:A0.tmps.getD 3 undef = .slice (some ⟨ob,oo,none⟩) OS.length oc:=by rw[←hA0];rfl
    have e4:A0.tmps.getD 4 undef = .int .i64 (y:Int):=by rw[←hA0];rfl
    have e5:A0.tmps.getD 5 undef = .pointer (some ⟨B,0,none⟩):=by rw[←hA0];rfl
    have sz:A0.tmps.size=122:=by rw[←hA0];rfl
    refine wp_region_last (by kernel_rfl) DW9 (by simp) ?_ 11 rfl dW9 dW9_inj (FW9 H OS P g1 cr ob oo oc y j s n B) ?_ ?_ ?_ ?_
    ·intro k o ho
     have hk:k<12:=(Array.getElem?_eq_some_iff.1 ho).1
     rcases (show k=0∨k=1∨k=2∨k=3∨k=4∨k=5∨k=6∨k=7∨k=8∨k=9∨k=10∨k=11 by omega) with rfl|rfl|rfl|rfl|rfl|rfl|rfl|rfl|rfl|rfl|rfl|rfl<;>(obtain rfl:=Option.some.inj ho;simp)
    ·intro k t W W' hb h
     match k,h with
     |0,h=>exact h
     |1,h=>exact h
     |2,h=>exact h
     |3,h=>exact h
     |4,h=>exact h
     |5,h=>exact h
     |6,h=>exact h
     |7,h=>exact h
     |8,h=>exact h
     |9,h=>exact h
     |10,h=>exact h
     |_+11,h=>exact h.elim
    ·intro l hC kk hkk
     have CL:=hC 11 _ rfl (fun h=>by omega)
     have l3:l 3=true:=CL ⟨3,.data⟩ (by simp) (by simp[Region.binds])
     have l7:l 7=true:=CL ⟨7,.data⟩ (by simp) (by simp[Region.binds])
     have l10:l 10=true:=CL ⟨10,.data⟩ (by simp) (by simp[Region.binds])
     have l2:l 2=true:=hC 3 _ rfl (fun _=>l3) ⟨2,.data⟩ (by simp) (by simp[Region.binds])
     have l1:l 1=true:=hC 2 _ rfl (fun _=>l2) ⟨1,.data⟩ (by simp) (by simp[Region.binds])
     have l0:l 0=true:=hC 1 _ rfl (fun _=>l1) ⟨0,.data⟩ (by simp) (by simp[Region.binds])
     have l6:l 6=true:=hC 7 _ rfl (fun _=>l7) ⟨6,.data⟩ (by simp) (by simp[Region.binds])
     have l4:l 4=true:=hC 6 _ rfl (fun _=>l6) ⟨4,.data⟩ (by simp) (by simp[Region.binds])
     have l5:l 5=true:=hC 6 _ rfl (fun _=>l6) ⟨5,.data⟩ (by simp) (by simp[Region.binds])
     have l9:l 9=true:=hC 10 _ rfl (fun _=>l10) ⟨9,.data⟩ (by simp) (by simp[Region.binds])
     have l8:l 8=true:=hC 9 _ rfl (fun _=>l9) ⟨8,.data⟩ (by simp) (by simp[Region.binds])
     rcases (show kk=0∨kk=1∨kk=2∨kk=3∨kk=4∨kk=5∨kk=6∨kk=7∨kk=8∨kk=9∨kk=10 by omega) with rfl|rfl|rfl|rfl|rfl|rfl|rfl|rfl|rfl|rfl|rfl
     ·exact l0
     ·exact l1
     ·exact l2
     ·exact l3
     ·exact l4
     ·exact l5
     ·exact l6
     ·exact l7
     ·exact l8
     ·exact l9
     ·exact l10
    ·intro k o u W hk ho hB hF
     have ev:∀s,DW9 s=true→s<122→(ovr DW9 A0 u).tmps[s]?.getD undef=u s:=fun s h1 h2=>(getD_at _ _).symm.trans (eval_in h1 (by omega))
     have o0:(ovr DW9 A0 u).tmps[0]?.getD undef=_:=(getD_at _ _).symm.trans ((eval_out (D:=DW9) (a0:=A0) (u:=u) (s:=0) rfl (by omega)).trans e0)
     have o3:(ovr DW9 A0 u).tmps[3]?.getD undef=_:=(getD_at _ _).symm.trans ((eval_out (D:=DW9) (a0:=A0) (u:=u) (s:=3) rfl (by omega)).trans e3)
     have o4:(ovr DW9 A0 u).tmps[4]?.getD undef=_:=(getD_at _ _).symm.trans ((eval_out (D:=DW9) (a0:=A0) (u:=u) (s:=4) rfl (by omega)).trans e4)
     have o5:(ovr DW9 A0 u).tmps[5]?.getD undef=_:=(getD_at _ _).symm.trans ((eval_out (D:=DW9) (a0:=A0) (u:=u) (s:=5) rfl (by omega)).trans e5)
     have SW:=HSd.out.below hB
     obtain⟨⟨_,_,z2,_,_⟩,_,_⟩:=nine_cells SW.nine
     have xl:=(hB.cell (p:=⟨ob,oo+y,none⟩) hobd).trans x0d
     obtain⟨t0,t1,t2,t3,t4,t5,_⟩:=headAt_cells (headAt_below HHe.out hB)
     clear SW
     rcases (show k=0∨k=1∨k=2∨k=3∨k=4∨k=5∨k=6∨k=7∨k=8∨k=9∨k=10 by omega) with rfl|rfl|rfl|rfl|rfl|rfl|rfl|rfl|rfl|rfl|rfl
     all_goals obtain rfl:=Option.some.inj ho
     ·refine plainV (v:=.pointer (some ⟨P,0,none⟩)) rfl rfl ?_ rfl
      simp only[execOp]
      go_simp
      try go_num
      try (rw[IntKind.wrap_i64];omega)
     ·have x0:=(ev 60 rfl (by decide)).trans (hF 0 (by decide) (by simp[Region.binds]))
      refine plainV (v:=.pointer (some ⟨P,0,none⟩)) rfl rfl ?_ rfl
      simp only[execOp]
      go_simp
      try go_num
      try (rw[IntKind.wrap_i64];omega)
     ·have x1:=(ev 61 rfl (by decide)).trans (hF 1 (by decide) (by simp[Region.binds]))
      refine plainV (v:=.pointer (some ⟨P,2,none⟩)) rfl rfl ?_ rfl
      simp only[execOp]
      go_simp
      try go_num
      try (rw[IntKind.wrap_i64];omega)
     ·have x2:=(ev 62 rfl (by decide)).trans (hF 2 (by decide) (by simp[Region.binds]))
      refine plainV (v:=.slice (some ⟨g1,0,none⟩) H.row.length cr) rfl rfl ?_ rfl
      simp only[execOp]
      go_simp
      try go_num
      try (rw[IntKind.wrap_i64];omega)
     ·refine plainV (v:=.slice (some ⟨ob,oo,none⟩) OS.length oc) rfl rfl ?_ rfl
      simp only[execOp]
      go_simp
      try go_num
      try (rw[IntKind.wrap_i64];omega)
     ·refine plainV (v:=.int .i64 (y:Int)) rfl rfl ?_ rfl
      simp only[execOp]
      go_simp
      try go_num
      try (rw[IntKind.wrap_i64];omega)
     ·have x4:=(ev 64 rfl (by decide)).trans (hF 4 (by decide) (by simp[Region.binds]))
      have x5:=(ev 65 rfl (by decide)).trans (hF 5 (by decide) (by simp[Region.binds]))
      refine plainV (v:=.pointer (some ⟨ob,oo+y,none⟩)) rfl rfl ?_ rfl
      simp only[execOp]
      go_simp
      try go_num
      try (rw[IntKind.wrap_i64];omega)
     ·have x6:=(ev 66 rfl (by decide)).trans (hF 6 (by decide) (by simp[Region.binds]))
      refine plainV (v:=.int .i64 (j:Int)) rfl rfl ?_ rfl
      simp only[execOp]
      go_simp
      try go_num
      try (rw[IntKind.wrap_i64];omega)
     ·refine plainV (v:=.pointer (some ⟨B,0,none⟩)) rfl rfl ?_ rfl
      simp only[execOp]
      go_simp
      try go_num
      try (rw[IntKind.wrap_i64];omega)
     ·have x8:=(ev 68 rfl (by decide)).trans (hF 8 (by decide) (by simp[Region.binds]))
      refine plainV (v:=.int .i64 (s:Int)) rfl rfl ?_ rfl
      simp only[execOp]
      go_simp
      try go_num
      try (rw[IntKind.wrap_i64];omega)
     ·have x9:=(ev 69 rfl (by decide)).trans (hF 9 (by decide) (by simp[Region.binds]))
      refine plainC (f:=63) (args:=#[.int .i64 (s:Int)]) rfl rfl ?_ ((l2Size_any (s:Int) W (by omega) (by omega)).mono ?_)
      ·simp only[execOp]
       go_simp
      ·rintro e w' ⟨rfl,rfl⟩
       exact⟨_,rfl,Below.refl _ _,by rw[HSZ.out];rfl⟩
    ·intro o u W ho hB hF
     obtain rfl:=Option.some.inj ho
     have ev:∀s,DW9 s=true→s<122→(ovr DW9 A0 u).tmps[s]?.getD undef=u s:=fun s h1 h2=>(getD_at _ _).symm.trans (eval_in h1 (by omega))
     have o0:(ovr DW9 A0 u).tmps[0]?.getD undef=_:=(getD_at _ _).symm.trans ((eval_out (D:=DW9) (a0:=A0) (u:=u) (s:=0) rfl (by omega)).trans e0)
     have o3:(ovr DW9 A0 u).tmps[3]?.getD undef=_:=(getD_at _ _).symm.trans ((eval_out (D:=DW9) (a0:=A0) (u:=u) (s:=3) rfl (by omega)).trans e3)
     have o4:(ovr DW9 A0 u).tmps[4]?.getD undef=_:=(getD_at _ _).symm.trans ((eval_out (D:=DW9) (a0:=A0) (u:=u) (s:=4) rfl (by omega)).trans e4)
     have o5:(ovr DW9 A0 u).tmps[5]?.getD undef=_:=(getD_at _ _).symm.trans ((eval_out (D:=DW9) (a0:=A0) (u:=u) (s:=5) rfl (by omega)).trans e5)
     have SW:=HSd.out.below hB
     obtain⟨⟨_,_,z2,_,_⟩,_,_⟩:=nine_cells SW.nine
     have xl:=(hB.cell (p:=⟨ob,oo+y,none⟩) hobd).trans x0d
     obtain⟨t0,t1,t2,t3,t4,t5,_⟩:=headAt_cells (headAt_below HHe.out hB)
     clear SW
     have x3:=(ev 63 rfl (by decide)).trans (hF 3 (by decide))
     have x7:=(ev 67 rfl (by decide)).trans (hF 7 (by decide))
     have x10:=(ev 70 rfl (by decide)).trans (hF 10 (by decide))
     refine lastC (f:=62) (args:=#[.slice (some ⟨g1,0,none⟩) H.row.length cr,.int .i64 (j:Int),.int .i64 (n:Int)]) rfl rfl ?_ ((HLF.out W hB).mono ?_)
     ·simp only[execOp]
      go_simp
     ·rintro e w' ⟨⟨v9,rfl⟩,r9,g9⟩
      refine⟨v9,rfl,?_⟩
      have HSW:Hid _:=(HSd.out.below hB).rowCh HDS.out r9 (by rw[←HE1.out];exact HYL.out) (chR g9)
      have HOW:Hid _:=row_ch (own_below HOd.out hB) (chR g9) (fun q hq e=>by have:=(blk_lt HOd.out q hq).1;have e2:q=g1:=(by simpa using e);omega)
      clear r9 g9 xl z2 hF x3 x7 x10 ev o0 o3 o4 o5 e0 e3 e4 e5 sz t0 t1 t2 t3 t4 t5
      subst hA0
      simp[ovr,DW9,List.range,List.range.loop]
      go_wp2
      exact⟨⟨y+1,by omega,by go_num,by rw[HYS.out,HE1.out];exact HSW.out,HOW.out⟩,by simp[intOf];omega⟩
  ·have hlt':¬(y:Int)<(OS.length:Int):=by omega
   have e:y=OS.length:=by omega
   subst e
   rw[HRWE.out]at HS
   clear hS hO
   have HXR:Hid _:=HS.out.row
   have hhf:=HHF.out
   have HJN:Hid (∀W,Below wr.heap.size wr W→Calls Tryz.prog 65 #[.slice (some ⟨g1,0,none⟩) H.row.length cr,.int .i64 (F:Int),.int .i64 (T:Int)] W fun e w'=>(∃v',e = .returned v')∧w'.ownsRow base 2 1 (.slice (some ⟨g1,0,none⟩) H.row.length cr) H.row.length (cellsOf (runs (swpRow H L OS) (uu.map Int.toNat) none (swpRow H L OS)))∧W.grownBy w' (some g1)):=fun W hW=>l8Join_g (HS.out.below hW).row (by rw[HSLN.out]) (by omega) HG1.out (by have:=hW.size;have:=HS.out.ch.size;omega) hTl HCHN.out
   go_upto_region 16 with fail
   generalize hA0:(Act.mk _ [])=A0
   have e0:A0.tmps.getD 0 undef = .pointer (some ⟨P,0,none⟩):=by rw[←hA0];rfl
   have sz:A0.tmps.size=122:=by rw[←hA0];rfl
   refine wp_region_last (by kernel_rfl) DW16 (by simp) ?_ 19 rfl dW16 dW16_inj (FW16 H P g1 cr F T) ?_ ?_ ?_ ?_
   ·intro k o ho
    have hk:k<20:=(Array.getElem?_eq_some_iff.1 ho).1
    rcases (show k=0∨k=1∨k=2∨k=3∨k=4∨k=5∨k=6∨k=7∨k=8∨k=9∨k=10∨k=11∨k=12∨k=13∨k=14∨k=15∨k=16∨k=17∨k=18∨k=19 by omega) with rfl|rfl|rfl|rfl|rfl|rfl|rfl|rfl|rfl|rfl|rfl|rfl|rfl|rfl|rfl|rfl|rfl|rfl|rfl|rfl<;>(obtain rfl:=Option.some.inj ho;simp)
   ·intro k t W W' hb h
    match k,h with
    |0,h=>exact h
    |1,h=>exact h
    |2,h=>exact h
    |3,h=>exact h
    |4,h=>exact h
    |5,h=>exact h
    |6,h=>exact h
    |7,h=>exact h
    |8,h=>exact h
    |9,h=>exact h
    |10,h=>exact h
    |11,h=>exact h
    |12,h=>exact h
    |13,h=>exact h
    |14,h=>exact h
    |15,h=>exact h
    |16,h=>exact h
    |17,h=>exact h
    |18,h=>exact h
    |_+19,h=>exact h.elim
   ·intro l hC kk hkk
    have CL:=hC 19 _ rfl (fun h=>by omega)
    have l3:l 3=true:=CL ⟨3,.data⟩ (by simp) (by simp[Region.binds])
    have l8:l 8=true:=CL ⟨8,.data⟩ (by simp) (by simp[Region.binds])
    have l18:l 18=true:=CL ⟨18,.data⟩ (by simp) (by simp[Region.binds])
    have l2:l 2=true:=hC 3 _ rfl (fun _=>l3) ⟨2,.data⟩ (by simp) (by simp[Region.binds])
    have l1:l 1=true:=hC 2 _ rfl (fun _=>l2) ⟨1,.data⟩ (by simp) (by simp[Region.binds])
    have l0:l 0=true:=hC 1 _ rfl (fun _=>l1) ⟨0,.data⟩ (by simp) (by simp[Region.binds])
    have l7:l 7=true:=hC 8 _ rfl (fun _=>l8) ⟨7,.data⟩ (by simp) (by simp[Region.binds])
    have l6:l 6=true:=hC 7 _ rfl (fun _=>l7) ⟨6,.data⟩ (by simp) (by simp[Region.binds])
    have l5:l 5=true:=hC 6 _ rfl (fun _=>l6) ⟨5,.data⟩ (by simp) (by simp[Region.binds])
    have l4:l 4=true:=hC 5 _ rfl (fun _=>l5) ⟨4,.data⟩ (by simp) (by simp[Region.binds])
    have l13:l 13=true:=hC 18 _ rfl (fun _=>l18) ⟨13,.data⟩ (by simp) (by simp[Region.binds])
    have l17:l 17=true:=hC 18 _ rfl (fun _=>l18) ⟨17,.data⟩ (by simp) (by simp[Region.binds])
    have l12:l 12=true:=hC 13 _ rfl (fun _=>l13) ⟨12,.data⟩ (by simp) (by simp[Region.binds])
    have l11:l 11=true:=hC 12 _ rfl (fun _=>l12) ⟨11,.data⟩ (by simp) (by simp[Region.binds])
    have l10:l 10=true:=hC 11 _ rfl (fun _=>l11) ⟨10,.data⟩ (by simp) (by simp[Region.binds])
    have l9:l 9=true:=hC 10 _ rfl (fun _=>l10) ⟨9,.data⟩ (by simp) (by simp[Region.binds])
    have l16:l 16=true:=hC 17 _ rfl (fun _=>l17) ⟨16,.data⟩ (by simp) (by simp[Region.binds])
    have l15:l 15=true:=hC 16 _ rfl (fun _=>l16) ⟨15,.data⟩ (by simp) (by simp[Region.binds])
    have l14:l 14=true:=hC 15 _ rfl (fun _=>l15) ⟨14,.data⟩ (by simp) (by simp[Region.binds])
    rcases (show kk=0∨kk=1∨kk=2∨kk=3∨kk=4∨kk=5∨kk=6∨kk=7∨kk=8∨kk=9∨kk=10∨kk=11∨kk=12∨kk=13∨kk=14∨kk=15∨kk=16∨kk=17∨kk=18 by omega) with rfl|rfl|rfl|rfl|rfl|rfl|rfl|rfl|rfl|rfl|rfl|rfl|rfl|rfl|rfl|rfl|rfl|rfl|rfl
    ·exact l0
    ·exact l1
    ·exact l2
    ·exact l3
    ·exact l4
    ·exact l5
    ·exact l6
    ·exact l7
    ·exact l8
    ·exact l9
    ·exact l10
    ·exact l11
    ·exact l12
    ·exact l13
    ·exact l14
    ·exact l15
    ·exact l16
    ·exact l17
    ·exact l18
   ·intro k o u W hk ho hB hF
    have ev:∀s,DW16 s=true→s<122→(ovr DW16 A0 u).tmps[s]?.getD undef=u s:=fun s h1 h2=>(getD_at _ _).symm.trans (eval_in h1 (by omega))
    have o0:(ovr DW16 A0 u).tmps[0]?.getD undef=_:=(getD_at _ _).symm.trans ((eval_out (D:=DW16) (a0:=A0) (u:=u) (s:=0) rfl (by omega)).trans e0)
    have SW:=HS.out.below hB
    obtain⟨⟨z0,z1,z2,_,_⟩,_,_⟩:=nine_cells SW.nine
    clear SW
    rcases (show k=0∨k=1∨k=2∨k=3∨k=4∨k=5∨k=6∨k=7∨k=8∨k=9∨k=10∨k=11∨k=12∨k=13∨k=14∨k=15∨k=16∨k=17∨k=18 by omega) with rfl|rfl|rfl|rfl|rfl|rfl|rfl|rfl|rfl|rfl|rfl|rfl|rfl|rfl|rfl|rfl|rfl|rfl|rfl
    all_goals obtain rfl:=Option.some.inj ho
    ·refine plainV (v:=.pointer (some ⟨P,0,none⟩)) rfl rfl ?_ rfl
     simp only[execOp]
     go_simp
     try go_num
     try (rw[IntKind.wrap_i64];omega)
    ·have x0:=(ev 95 rfl (by decide)).trans (hF 0 (by decide) (by simp[Region.binds]))
     refine plainV (v:=.pointer (some ⟨P,0,none⟩)) rfl rfl ?_ rfl
     simp only[execOp]
     go_simp
     try go_num
     try (rw[IntKind.wrap_i64];omega)
    ·have x1:=(ev 96 rfl (by decide)).trans (hF 1 (by decide) (by simp[Region.binds]))
     refine plainV (v:=.pointer (some ⟨P,2,none⟩)) rfl rfl ?_ rfl
     simp only[execOp]
     go_simp
     try go_num
     try (rw[IntKind.wrap_i64];omega)
    ·have x2:=(ev 97 rfl (by decide)).trans (hF 2 (by decide) (by simp[Region.binds]))
     refine plainV (v:=.slice (some ⟨g1,0,none⟩) H.row.length cr) rfl rfl ?_ rfl
     simp only[execOp]
     go_simp
     try go_num
     try (rw[IntKind.wrap_i64];omega)
    ·refine plainV (v:=.pointer (some ⟨P,0,none⟩)) rfl rfl ?_ rfl
     simp only[execOp]
     go_simp
     try go_num
     try (rw[IntKind.wrap_i64];omega)
    ·have x4:=(ev 99 rfl (by decide)).trans (hF 4 (by decide) (by simp[Region.binds]))
     refine plainV (v:=.pointer (some ⟨P,0,none⟩)) rfl rfl ?_ rfl
     simp only[execOp]
     go_simp
     try go_num
     try (rw[IntKind.wrap_i64];omega)
    ·have x5:=(ev 100 rfl (by decide)).trans (hF 5 (by decide) (by simp[Region.binds]))
     refine plainV (v:=.pointer (some ⟨P,0,none⟩)) rfl rfl ?_ rfl
     simp only[execOp]
     go_simp
     try go_num
     try (rw[IntKind.wrap_i64];omega)
    ·have x6:=(ev 101 rfl (by decide)).trans (hF 6 (by decide) (by simp[Region.binds]))
     refine plainV (v:=.int .i64 H.half) rfl rfl ?_ rfl
     simp only[execOp]
     go_simp
     try go_num
     try (rw[IntKind.wrap_i64];omega)
    ·have x7:=(ev 102 rfl (by decide)).trans (hF 7 (by decide) (by simp[Region.binds]))
     refine plainV (v:=.int .i64 (F:Int)) rfl rfl ?_ rfl
     simp only[execOp]
     go_simp
     try go_num
     try (rw[IntKind.wrap_i64];omega)
    ·refine plainV (v:=.pointer (some ⟨P,0,none⟩)) rfl rfl ?_ rfl
     simp only[execOp]
     go_simp
     try go_num
     try (rw[IntKind.wrap_i64];omega)
    ·have x9:=(ev 104 rfl (by decide)).trans (hF 9 (by decide) (by simp[Region.binds]))
     refine plainV (v:=.pointer (some ⟨P,0,none⟩)) rfl rfl ?_ rfl
     simp only[execOp]
     go_simp
     try go_num
     try (rw[IntKind.wrap_i64];omega)
    ·have x10:=(ev 105 rfl (by decide)).trans (hF 10 (by decide) (by simp[Region.binds]))
     refine plainV (v:=.pointer (some ⟨P,0,none⟩)) rfl rfl ?_ rfl
     simp only[execOp]
     go_simp
     try go_num
     try (rw[IntKind.wrap_i64];omega)
    ·have x11:=(ev 106 rfl (by decide)).trans (hF 11 (by decide) (by simp[Region.binds]))
     refine plainV (v:=.int .i64 H.half) rfl rfl ?_ rfl
     simp only[execOp]
     go_simp
     try go_num
     try (rw[IntKind.wrap_i64];omega)
    ·have x12:=(ev 107 rfl (by decide)).trans (hF 12 (by decide) (by simp[Region.binds]))
     refine plainV (v:=.int .i64 (F:Int)) rfl rfl ?_ rfl
     simp only[execOp]
     go_simp
     try go_num
     try (rw[IntKind.wrap_i64];omega)
    ·refine plainV (v:=.pointer (some ⟨P,0,none⟩)) rfl rfl ?_ rfl
     simp only[execOp]
     go_simp
     try go_num
     try (rw[IntKind.wrap_i64];omega)
    ·have x14:=(ev 109 rfl (by decide)).trans (hF 14 (by decide) (by simp[Region.binds]))
     refine plainV (v:=.pointer (some ⟨P,0,none⟩)) rfl rfl ?_ rfl
     simp only[execOp]
     go_simp
     try go_num
     try (rw[IntKind.wrap_i64];omega)
    ·have x15:=(ev 110 rfl (by decide)).trans (hF 15 (by decide) (by simp[Region.binds]))
     refine plainV (v:=.pointer (some ⟨P,1,none⟩)) rfl rfl ?_ rfl
     simp only[execOp]
     go_simp
     try go_num
     try (rw[IntKind.wrap_i64];omega)
    ·have x16:=(ev 111 rfl (by decide)).trans (hF 16 (by decide) (by simp[Region.binds]))
     refine plainV (v:=.int .i64 H.old) rfl rfl ?_ rfl
     simp only[execOp]
     go_simp
     try go_num
     try (rw[IntKind.wrap_i64];omega)
    ·have x13:=(ev 108 rfl (by decide)).trans (hF 13 (by decide) (by simp[Region.binds]))
     have x17:=(ev 112 rfl (by decide)).trans (hF 17 (by decide) (by simp[Region.binds]))
     refine plainV (v:=.int .i64 (T:Int)) rfl rfl ?_ rfl
     simp only[execOp]
     go_simp
     try go_num
     try (rw[IntKind.wrap_i64];omega)
   ·intro o u W ho hB hF
    obtain rfl:=Option.some.inj ho
    have ev:∀s,DW16 s=true→s<122→(ovr DW16 A0 u).tmps[s]?.getD undef=u s:=fun s h1 h2=>(getD_at _ _).symm.trans (eval_in h1 (by omega))
    have o0:(ovr DW16 A0 u).tmps[0]?.getD undef=_:=(getD_at _ _).symm.trans ((eval_out (D:=DW16) (a0:=A0) (u:=u) (s:=0) rfl (by omega)).trans e0)
    have SW:=HS.out.below hB
    obtain⟨⟨z0,z1,z2,_,_⟩,_,_⟩:=nine_cells SW.nine
    clear SW
    have x3:=(ev 98 rfl (by decide)).trans (hF 3 (by decide))
    have x8:=(ev 103 rfl (by decide)).trans (hF 8 (by decide))
    have x18:=(ev 113 rfl (by decide)).trans (hF 18 (by decide))
    refine lastC (f:=65) (args:=#[.slice (some ⟨g1,0,none⟩) H.row.length cr,.int .i64 (F:Int),.int .i64 (T:Int)]) rfl rfl ?_ ((HJN.out W hB).mono ?_)
    ·simp only[execOp]
     go_simp
    ·rintro e w' ⟨⟨v9,rfl⟩,r9,g9⟩
     refine⟨v9,rfl,?_⟩
     rw[←HROW.out]at r9
     have HSW:Hid _:=(HS.out.below hB).rowCh HDS.out r9 HCLN.out (chR g9)
     clear r9 g9 z0 z1 z2 hF x3 x8 x18 ev o0 e0 sz
     subst hA0
     simp[ovr,DW16,List.range,List.range.loop]
     have SE:=l9Seen_any (show HpAt w' (.slice (some ⟨g1,0,none⟩) (swpC H ps L).row.length cr) (.slice (some ⟨g2,0,none⟩) H.roots.length co) (.slice (some ⟨g3,0,none⟩) H.mourned.length cm) (.slice sa sn sc) (swpC H ps L) from HSW.out.hp) HNU.out HUP.out
     rw[HCLN.out]at SE
     obtain⟨Rr,hRr⟩:∃Rr,seenL (swpC H ps L)=Rr:=⟨_,rfl⟩
     rw[hRr]at SE
     have HRE:Hid (Rr=(swpF H ps L).seen):=hRr.symm
     obtain⟨⟨z0,z1,z2,z3,z4⟩,⟨z5,z6,z7,z8⟩,_⟩:=nine_cells HSW.out.nine
     clear hRr
     go_wp2_with (go_at_call 41;refine SE.mono ?_;clear SE z0 z1 z2 z3 z4 z5 z6 z7 z8;rintro e w5 ⟨u3,rfl,O3,b3⟩;have S3:=HSW.out.below b3;obtain⟨⟨z0,z1,z2,z3,z4⟩,⟨z5,z6,z7,z8⟩,zf⟩:=nine_cells S3.nine;have f7:=zf 7;have HSZ2:Hid _:=HSW.out.ch.size;have HO3:Hid _:=own_base O3 HSZ2.out;have HS3:Hid _:=S3;obtain⟨ua,un,uc,rfl⟩:=ints_slice (own_ints O3);clear O3 b3 S3 zf)
     refine bodyPost_end (results_none rfl _ _ _) rfl ?_
     rw[HE.out]
     refine⟨_,rfl,nine_set7 HS3.out.nine _,?_,HS3.out.ch.trans ((one_ch _ P _ _).mono (by simp))⟩
     have hd:=HDS.out
     have hblk3:=blk_lt HO3.out
     have one:Ch [P] w5 (w5.setCell ⟨P,7,none⟩ (.slice ua un uc)):=one_ch _ _ _ _
     have k1:=HS3.out.row
     have k2:=HS3.out.roots
     have k3:=HS3.out.mour
     refine⟨⟨?_,?_,?_,?_⟩,?_⟩
     ·show World.ownsRow _ _ _ _ _ _ _
      rw[show (swpF H ps L).row.length=H.row.length from HCLN.out]
      exact row_ch k1 one (fun q hq=>by rw[blk_of]at hq;simp at hq ⊢; have:=hd.pr;omega)
     ·exact row_ch k2 one (fun q hq=>by rw[blk_of]at hq;simp at hq ⊢; have:=hd.po;omega)
     ·exact row_ch k3 one (fun q hq=>by rw[blk_of]at hq;simp at hq ⊢; have:=hd.pm;omega)
     ·have h4:=row_ch HO3.out one (fun q hq=>by have:=(hblk3 q hq).1;simp;omega)
      rw[←HRE.out]
      exact own_base h4 hbs
     ·have q1:=hd.ro
      have q2:=hd.rm
      have q3:=hd.om
      cases ua with
      |none=>
       show ([g1]++[g2]++[g3]++[]).Nodup
       simp
       omega
      |some a=>
       have q4:=(hblk3 a.block (by show _ ∈ [a.block];simp)).1
       show ([g1]++[g2]++[g3]++[a.block]).Nodup
       simp
       omega
end Go.Proofs.YtocidankimefpaaGreatDoor.hp
