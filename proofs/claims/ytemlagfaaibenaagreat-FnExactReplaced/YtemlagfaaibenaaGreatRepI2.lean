/-
  Chapter 18 as the program has it: the becoming's block; objectOf; Replaced's change.
  Made from the template RepI2 (mkrepi2.py).
-/
import Derived.Test.YtemlagfaaibenaaGreatRepI1
import Derived.Test.YtemlagfaaibenaaGreatM22
namespace Go.Proofs.YtemlagfaaibenaaGreat.hp
open Go.RowKit rows heads words walks region
set_option maxRecDepth 100000
set_option linter.unusedVariables false
set_option linter.unusedSimpArgs false
abbrev becb (H:Hp) (vr vo vm vs:Value) (up:Int) (v:Value) (M:Hp) (ur uo um us:Value):Obj:=.cells #[.int .i64 H.half,.int .i64 H.old,vr,.int .i64 H.side,.int .i64 H.top,vo,vm,vs,.int .i64 H.seed,.int .i64 up,v,.int .i64 M.half,.int .i64 M.old,ur,.int .i64 M.side,.int .i64 M.top,uo,um,us,.int .i64 M.seed] 70
theorem becb_cells {W:World} {b:Nat} {H:Hp} {vr vo vm vs:Value} {up:Int} {v:Value} {M:Hp} {ur uo um us:Value} (h:W.heap[b]? = some (becb H vr vo vm vs up v M ur uo um us)):(W.cell? ⟨b,0,none⟩=some (.int .i64 H.half)∧W.cell? ⟨b,1,none⟩=some (.int .i64 H.old)∧W.cell? ⟨b,2,none⟩=some (vr)∧W.cell? ⟨b,3,none⟩=some (.int .i64 H.side)∧W.cell? ⟨b,4,none⟩=some (.int .i64 H.top)∧W.cell? ⟨b,5,none⟩=some (vo)∧W.cell? ⟨b,6,none⟩=some (vm)∧W.cell? ⟨b,7,none⟩=some (vs)∧W.cell? ⟨b,8,none⟩=some (.int .i64 H.seed)∧W.cell? ⟨b,9,none⟩=some (.int .i64 up)∧W.cell? ⟨b,10,none⟩=some (v)∧W.cell? ⟨b,11,none⟩=some (.int .i64 M.half)∧W.cell? ⟨b,12,none⟩=some (.int .i64 M.old)∧W.cell? ⟨b,13,none⟩=some (ur)∧W.cell? ⟨b,14,none⟩=some (.int .i64 M.side)∧W.cell? ⟨b,15,none⟩=some (.int .i64 M.top)∧W.cell? ⟨b,16,none⟩=some (uo)∧W.cell? ⟨b,17,none⟩=some (um)∧W.cell? ⟨b,18,none⟩=some (us)∧W.cell? ⟨b,19,none⟩=some (.int .i64 M.seed))∧(W.frozen? ⟨b,0,none⟩=false∧W.frozen? ⟨b,1,none⟩=false∧W.frozen? ⟨b,2,none⟩=false∧W.frozen? ⟨b,3,none⟩=false∧W.frozen? ⟨b,4,none⟩=false∧W.frozen? ⟨b,5,none⟩=false∧W.frozen? ⟨b,6,none⟩=false∧W.frozen? ⟨b,7,none⟩=false∧W.frozen? ⟨b,8,none⟩=false∧W.frozen? ⟨b,9,none⟩=false∧W.frozen? ⟨b,10,none⟩=false∧W.frozen? ⟨b,11,none⟩=false∧W.frozen? ⟨b,12,none⟩=false∧W.frozen? ⟨b,13,none⟩=false∧W.frozen? ⟨b,14,none⟩=false∧W.frozen? ⟨b,15,none⟩=false∧W.frozen? ⟨b,16,none⟩=false∧W.frozen? ⟨b,17,none⟩=false∧W.frozen? ⟨b,18,none⟩=false∧W.frozen? ⟨b,19,none⟩=false):=by
 simp[World.cell?, World.frozen?, h]
theorem res_pd1 {fn:Func} {tmps:Array Value} {X:World} {j b:Nat} {s f c h:Int} {p m:Bool} {ua:Option Addr} {un uc:Nat} {pl:Int} (hf:fn.results=#[.cell j 46]) (h2:tmps[j]? = some (.pointer (some ⟨b,0,none⟩))) (hX:X.heap[b]? = some (pdb ⟨s,f,c,h,p,m,.slice ua un uc,pl⟩)) :
    (results fn tmps).run Tryz.prog X = .ok (pdv ⟨s,f,c,h,p,m,.slice ua un uc,pl⟩) X:=by
 obtain⟨⟨k0,k1,k2,k3,k4,k5,k6,k7⟩,_⟩:=pdb_cells hX
 clear hX
 simp only at k0 k1 k2 k3 k4 k5 k6 k7
 simp[results,hf,h2,go_sem,k0,k1,k2,k3,k4,k5,k6,k7]
set_option maxHeartbeats 16000000 in
theorem objectOf_any {w:World} {B:Nat} {a1 a2 a3 a4 a5:Option Addr} {c1 c2 c3 c4 c5:Nat} {H M:Hp} {ur uo um us:Value} (hB:w.heap[B]? = some (becb H (.slice a1 H.row.length c1) (.slice a2 H.roots.length c2) (.slice a3 H.mourned.length c3) (.slice a4 H.seen.length c4) (2*H.half) (.slice a5 (objsP a1 H).length c5) M ur uo um us)) (h:HpAt w (.slice a1 H.row.length c1) (.slice a2 H.roots.length c2) (.slice a3 H.mourned.length c3) (.slice a4 H.seen.length c4) H) (hP:PdsAt w (.slice a5 (objsP a1 H).length c5) (objsP a1 H)) (dr:heapOk H=true) (hI:HpI H) (r:Int) :
    Calls Tryz.prog 79 #[.pointer (some ⟨B,0,none⟩),.int .i64 r] w fun e w'=>(rootOk H r=false→e = .panicked [gvUp 1])∧(rootOk H r=true→∃j:Nat,rpX H r=(j:Int)∧e = .returned (pdv (pdOf a1 H.row j)))∧Below w.heap.size w w':=by
 have B0:Below w.heap.size w (w.alloc (pdb pdD)):=(Below.refl _ _).alloc (Nat.le_refl _) _
 have hrt:=(ok_right dr).1
 rw[←openB_is a1 H]at hrt
 obtain⟨hn,hro,hz⟩:=openB_parts hrt
 have HIN:Hid _:=objs_in hro
 have HR:=houseRoot_any (hpAt_below h B0) (pdsAt_below hP B0) dr hI r
 have hBl:=lt_of_block hB
 obtain⟨⟨y0,y1,y2,y3,y4,y5,y6,y7,y8,y9,y10,y11,y12,y13,y14,y15,y16,y17,y18,y19⟩,yz⟩:=becb_cells ((B0.block _ hBl).trans hB)
 have HT0:Hid ((w.alloc (pdb pdD)).heap[w.heap.size]? = some (pdb pdD)):=heap_alloc_new w _
 have HB0:Hid _:=B0
 clear h hP dr hI B0 hB hrt hn hro yz hz
 go_enter Tryz.func79,Tryz.ntmps79
 go_upto_region 1 with fail
 generalize hV:w.alloc (Obj.cells _ _)=V0
 have hV0:w.alloc (pdb pdD)=V0:=hV
 rw[hV0]at HR HT0 HB0
 simp only[hV0]at y0 y1 y2 y3 y4 y5 y6 y7 y8 y9 y10 y11 y12 y13 y14 y15 y16 y17 y18 y19
 clear hV hV0
 cases hr:rootOk H r
 ·have HR0:=HR.mono (fun e w' hh=>(⟨hh.1 hr,hh.2.2⟩:e = .returned (.tuple #[pdv pdD,.bool false])∧Below V0.heap.size V0 w'))
  clear HR
  go_upto_region 2 with (go_at_call 47;refine HR0.mono ?_;clear HR0 y0 y1 y2 y3 y4 y5 y6 y7 y8 y9 y10 y11 y12 y13 y14 y15 y16 y17 y18 y19;rintro e w1 ⟨rfl,b1⟩;have HB1:Hid _:=b1;clear b1)
  have hbe:Below w.heap.size w (w1.alloc (pdb pdD)):=(HB0.out.trans (HB1.out.mono HB0.out.size)).alloc (Nat.le_trans HB0.out.size HB1.out.size) _
  have HBE:Hid _:=hbe
  clear hbe HB0 HB1 HT0
  go_wp2_with (go_at_call 41;refine (giveUp_yes 1 _).mono ?_;rintro e w' ⟨rfl,rfl⟩)
  exact⟨rfl,fun _=>rfl,fun e=>absurd (hr.symm.trans e) (by decide),HBE.out⟩
 ·have HR0:=HR.mono (fun e w' hh=>(⟨by
    obtain⟨i,hi,hp,he⟩:=hh.2.1 hr
    obtain⟨j,ej,_⟩:=HIN.out _ (mem_getDP hi)
    rw[ej]at hp he
    exact⟨j,hp.symm,he⟩,hh.2.2⟩:(∃j:Nat,rpX H r=(j:Int)∧e = .returned (.tuple #[pdv (pdOf a1 H.row j),.bool true]))∧Below V0.heap.size V0 w'))
  clear HR HIN
  go_upto_region 2 with (go_at_call 47;refine HR0.mono ?_;clear HR0 y0 y1 y2 y3 y4 y5 y6 y7 y8 y9 y10 y11 y12 y13 y14 y15 y16 y17 y18 y19;rintro e w1 ⟨⟨j,hj,rfl⟩,b1⟩;have HB1:Hid _:=b1;have HJ:Hid _:=hj;clear b1 hj;obtain⟨ds',df,dc,dh,dp,dm,sa,sn,sc,dl,hd⟩:∃s f c h p m a n c' pl,pdOf a1 H.row j=⟨s,f,c,h,p,m,.slice a n c',pl⟩:=⟨_,_,_,_,_,_,_,_,_,_,rfl⟩;have HD:Hid _:=hd;simp only[hd];clear hd)
  have hT5:=heap_alloc_new w1 (pdb ⟨ds',df,dc,dh,dp,dm,.slice sa sn sc,dl⟩)
  have hT4:=(((Below.refl w1.heap.size w1).alloc (Nat.le_refl _) (pdb ⟨ds',df,dc,dh,dp,dm,.slice sa sn sc,dl⟩)).block w.heap.size (by have:=HB1.out.size;have:=lt_of_block HT0.out;omega)).trans ((HB1.out.block _ (lt_of_block HT0.out)).trans HT0.out)
  obtain⟨⟨p0,p1,p2,p3,p4,p5,p6,p7⟩,f0,f1,f2,f3,f4,f5,f6,f7⟩:=pdb_cells hT5
  obtain⟨⟨q0,q1,q2,q3,q4,q5,q6,q7⟩,g0,g1,g2,g3,g4,g5,g6,g7⟩:=pdb_cells hT4
  have hbe:Below w.heap.size w (w1.alloc (pdb ⟨ds',df,dc,dh,dp,dm,.slice sa sn sc,dl⟩)):=(HB0.out.trans (HB1.out.mono HB0.out.size)).alloc (Nat.le_trans HB0.out.size HB1.out.size) _
  have HBE:Hid _:=hbe
  have HT4:Hid _:=hT4
  clear hbe HB0 HB1 HT0 hT4 hT5
  generalize hV:w1.alloc (Obj.cells _ _)=V1
  have hV1:w1.alloc (pdb ⟨ds',df,dc,dh,dp,dm,.slice sa sn sc,dl⟩)=V1:=hV
  rw[hV1]at HBE HT4
  simp only[hV1]at p0 p1 p2 p3 p4 p5 p6 p7 f0 f1 f2 f3 f4 f5 f6 f7 g0 g1 g2 g3 g4 g5 g6 g7 q0 q1 q2 q3 q4 q5 q6 q7
  clear hV hV1
  go_wp2_with (go_at_call 41;refine (giveUp_no 1 _).mono ?_;rintro e w' ⟨rfl,rfl⟩)
  exact bodyPost_ret (res_pd1 rfl rfl (pdb_set HT4.out ⟨ds',df,dc,dh,dp,dm,.slice sa sn sc,dl⟩)) rfl ⟨fun e=>absurd (hr.symm.trans e) (by decide),fun _=>⟨j,HJ.out,by rw[HD.out]⟩,pdb_below HBE.out (Nat.le_refl _) ⟨ds',df,dc,dh,dp,dm,.slice sa sn sc,dl⟩⟩
def dRc (k:Nat):Nat:=match k with
 |0=>11
 |1=>12
 |2=>13
 |3=>14
 |4=>15
 |5=>16
 |6=>17
 |7=>18
 |_=>2000
theorem dRc_inj:∀k,k<8→∀j,j<8→dRc j=dRc k→j=k:=by decide
def DRc (s:Nat):Bool:=s==11 || s==12 || s==13 || s==14 || s==15 || s==16 || s==17 || s==18 || s==19
def FRc (B px g L j k n uc:Nat) (ua:Option Addr) (s f c h:Int) (m:Bool) (i:Nat) (t:Value) (_:World):Prop:=
 match i with
 |0=>t=pdv ⟨s,f,c,h,false,m,.slice ua n uc,(j:Int)⟩
 |1=>t = .pointer (some ⟨B,0,none⟩)
 |2=>t = .pointer (some ⟨B,0,none⟩)
 |3=>t = .pointer (some ⟨B,11,none⟩)
 |4=>t = .pointer (some ⟨B,13,none⟩)
 |5=>t = .slice (some ⟨g,0,none⟩) L L
 |6=>t = .pointer (some ⟨px+1,7,none⟩)
 |7=>t = .int .i64 (k:Int)
 |_=>False
set_option maxHeartbeats 16000000 in
theorem repChange_any {w:World} {B g:Nat} {H M:Hp} {vr vo vm vs v:Value} {up:Int} {uo um us:Value} {xs:List Int} {s f c h s' f' c' h':Int} {p m p' m':Bool} {ua ub:Option Addr} {n uc n' uc' j k:Nat}
    (hB:w.heap[B]? = some (becb H vr vo vm vs up v M (.slice (some ⟨g,0,none⟩) xs.length xs.length) uo um us)) (hF:Full w g xs) (hl:xs.length≤1000) (hk:k≤999) (s0:0≤s) (s1:s≤20) (hn:sz s=(n:Int)) (hfit:j+n≤xs.length) :
    Calls Tryz.prog 40 #[.pointer (some ⟨B,0,none⟩),pdv ⟨s,f,c,h,p,m,.slice ua n uc,(j:Int)⟩,pdv ⟨s',f',c',h',p',m',.slice ub n' uc',(k:Int)⟩] w fun e w'=>(p=true→e = .panicked [gvUp 3]∧Below w.heap.size w w')∧(p=false→e = .returned (.tuple #[])∧Full w' g (put xs j (pk s 7 0 0 false false) [4*(k:Int)+4] 1 n))∧w.grownBy w' (some g):=by
 obtain⟨L,hL⟩:∃L,xs.length=L:=⟨_,rfl⟩
 have HLN:Hid (∀V,Full V g xs→Calls Tryz.prog 42 #[pdv ⟨s,f,c,h,p,m,.slice ua n uc,(j:Int)⟩,.slice (some ⟨g,0,none⟩) L L,.int .i64 (k:Int)] V fun e w'=>e = .returned (.tuple #[])∧Full w' g (put xs j (pk s 7 0 0 false false) [4*(k:Int)+4] 1 n)∧V.grownBy w' (some g)):=fun V hV=>by
  have:=leaveNote_any (f:=f) (c:=c) (h:=h) (p:=p) (m:=m) (ua:=ua) (uc:=uc) hV hl s0 s1 hn hfit hk
  rwa [hL]at this
 rw[hL]at hB
 have hBl:=lt_of_block hB
 have hgl:=lt_of_block hF
 obtain⟨px,hpx⟩:∃px,w.heap.size=px:=⟨_,rfl⟩
 have B0:Below w.heap.size w (w.alloc (pdb ⟨s,f,c,h,p,m,.slice ua n uc,(j:Int)⟩)):=(Below.refl _ _).alloc (Nat.le_refl _) _
 have B1:=B0.alloc B0.size (pdb ⟨s',f',c',h',p',m',.slice ub n' uc',(k:Int)⟩)
 have T0:=heap_alloc_new w (pdb ⟨s,f,c,h,p,m,.slice ua n uc,(j:Int)⟩)
 have T1:=heap_alloc_new (w.alloc (pdb ⟨s,f,c,h,p,m,.slice ua n uc,(j:Int)⟩)) (pdb ⟨s',f',c',h',p',m',.slice ub n' uc',(k:Int)⟩)
 rw[hpx]at T0
 have T0':=(((Below.refl (px+1) (w.alloc (pdb ⟨s,f,c,h,p,m,.slice ua n uc,(j:Int)⟩))).alloc (by simp[hpx]) (pdb ⟨s',f',c',h',p',m',.slice ub n' uc',(k:Int)⟩)).block px (by omega)).trans T0
 have HT0:Hid _:=T0'
 have HT1:Hid _:=(show _=_ from T1)
 rw[show (w.alloc (pdb ⟨s,f,c,h,p,m,.slice ua n uc,(j:Int)⟩)).heap.size=px+1 by simp[hpx]]at HT1
 have HB:Hid _:=(B1.block _ hBl).trans hB
 have HF:Hid _:=full_belowR hF B1
 have HG:Hid _:=grown_bel' B1 (some g)
 clear hB hF B0 T0 T0' T1 hl hn hfit s0 s1 hk hL
 go_enter Tryz.func40,Tryz.ntmps40
 go_upto_region 1 with fail
 have hX:(w.alloc (pdb ⟨s,f,c,h,p,m,.slice ua n uc,(j:Int)⟩)).alloc (pdb ⟨s',f',c',h',p',m',.slice ub n' uc',(k:Int)⟩)=(w.alloc (pdb ⟨s,f,c,h,p,m,.slice ua n uc,(j:Int)⟩)).alloc (pdb ⟨s',f',c',h',p',m',.slice ub n' uc',(k:Int)⟩):=rfl
 generalize hV:(w.alloc (Obj.cells _ _)).alloc (Obj.cells _ _)=V0
 have hV0:(w.alloc (pdb ⟨s,f,c,h,p,m,.slice ua n uc,(j:Int)⟩)).alloc (pdb ⟨s',f',c',h',p',m',.slice ub n' uc',(k:Int)⟩)=V0:=hV
 rw[hV0]at HT0 HT1 HB HF HG B1
 clear hX hV hV0
 obtain⟨⟨i0,i1,i2,i3,i4,i5,i6,i7⟩,iz⟩:=pdb_cells HT0.out
 clear iz
 cases p
 ·go_upto_region 2 with (go_at_call 41;refine (giveUp_no 3 _).mono ?_;rintro e w' ⟨rfl,rfl⟩)
  generalize hA0:(Act.mk _ [])=A0
  have e0:A0.tmps.getD 0 undef = .pointer (some ⟨B,0,none⟩):=by rw[←hA0];rfl
  have e4:A0.tmps.getD 4 undef = .pointer (some ⟨px,0,none⟩):=by rw[←hA0];rfl
  have e5:A0.tmps.getD 5 undef = .pointer (some ⟨px+1,0,none⟩):=by rw[←hA0];rfl
  have sz:A0.tmps.size=20:=by rw[←hA0];rfl
  refine wp_region_last (by kernel_rfl) DRc (by simp) ?_ 8 rfl dRc dRc_inj (FRc B px g L j k n uc ua s f c h m) ?_ ?_ ?_ ?_
  ·intro k o ho
   have hk:k<9:=(Array.getElem?_eq_some_iff.1 ho).1
   rcases (show k=0∨k=1∨k=2∨k=3∨k=4∨k=5∨k=6∨k=7∨k=8 by omega) with rfl|rfl|rfl|rfl|rfl|rfl|rfl|rfl|rfl<;>(obtain rfl:=Option.some.inj ho;simp)
  ·intro k t W W' hb h
   match k,h with
   |0,h=>exact h
   |1,h=>exact h
   |2,h=>exact h
   |3,h=>exact h
   |4,h=>exact h
   |5,h=>exact h
   |6,h=>exact h
   |7,h=>exact h
   |_+8,h=>exact h.elim
  ·intro l hC kk hkk
   have CL:=hC 8 _ rfl (fun h=>by omega)
   have l0:l 0=true:=CL ⟨0,.data⟩ (by simp) (by simp[Region.binds])
   have l5:l 5=true:=CL ⟨5,.data⟩ (by simp) (by simp[Region.binds])
   have l7:l 7=true:=CL ⟨7,.data⟩ (by simp) (by simp[Region.binds])
   have l4:l 4=true:=hC 5 _ rfl (fun _=>l5) ⟨4,.data⟩ (by simp) (by simp[Region.binds])
   have l3:l 3=true:=hC 4 _ rfl (fun _=>l4) ⟨3,.data⟩ (by simp) (by simp[Region.binds])
   have l2:l 2=true:=hC 3 _ rfl (fun _=>l3) ⟨2,.data⟩ (by simp) (by simp[Region.binds])
   have l1:l 1=true:=hC 2 _ rfl (fun _=>l2) ⟨1,.data⟩ (by simp) (by simp[Region.binds])
   have l6:l 6=true:=hC 7 _ rfl (fun _=>l7) ⟨6,.data⟩ (by simp) (by simp[Region.binds])
   rcases (show kk=0∨kk=1∨kk=2∨kk=3∨kk=4∨kk=5∨kk=6∨kk=7 by omega) with rfl|rfl|rfl|rfl|rfl|rfl|rfl|rfl
   ·exact l0
   ·exact l1
   ·exact l2
   ·exact l3
   ·exact l4
   ·exact l5
   ·exact l6
   ·exact l7
  ·intro k o u W hk ho hB hF
   have ev:∀s,DRc s=true→s<20→(ovr DRc A0 u).tmps[s]?.getD undef=u s:=fun s h1 h2=>(getD_at _ _).symm.trans (eval_in h1 (by omega))
   have o0:(ovr DRc A0 u).tmps[0]?.getD undef=_:=(getD_at _ _).symm.trans ((eval_out (D:=DRc) (a0:=A0) (u:=u) (s:=0) rfl (by omega)).trans e0)
   have o4:(ovr DRc A0 u).tmps[4]?.getD undef=_:=(getD_at _ _).symm.trans ((eval_out (D:=DRc) (a0:=A0) (u:=u) (s:=4) rfl (by omega)).trans e4)
   have o5:(ovr DRc A0 u).tmps[5]?.getD undef=_:=(getD_at _ _).symm.trans ((eval_out (D:=DRc) (a0:=A0) (u:=u) (s:=5) rfl (by omega)).trans e5)
   obtain⟨⟨p0,p1,p2,p3,p4,p5,p6,p7⟩,pz⟩:=pdb_cells ((hB.block _ (lt_of_block HT0.out)).trans HT0.out)
   obtain⟨⟨q0,q1,q2,q3,q4,q5,q6,q7⟩,qz⟩:=pdb_cells ((hB.block _ (lt_of_block HT1.out)).trans HT1.out)
   obtain⟨⟨y0,y1,y2,y3,y4,y5,y6,y7,y8,y9,y10,y11,y12,y13,y14,y15,y16,y17,y18,y19⟩,yz⟩:=becb_cells ((hB.block _ (lt_of_block HB.out)).trans HB.out)
   simp only at p0 p1 p2 p3 p4 p5 p6 p7 q0 q1 q2 q3 q4 q5 q6 q7
   clear pz qz yz
   rcases (show k=0∨k=1∨k=2∨k=3∨k=4∨k=5∨k=6∨k=7 by omega) with rfl|rfl|rfl|rfl|rfl|rfl|rfl|rfl
   all_goals obtain rfl:=Option.some.inj ho
   ·refine plainV (v:=pdv ⟨s,f,c,h,false,m,.slice ua n uc,(j:Int)⟩) rfl rfl ?_ rfl
    simp only[execOp]
    go_simp
    try go_num
    try (rw[IntKind.wrap_i64];omega)
   ·refine plainV (v:=.pointer (some ⟨B,0,none⟩)) rfl rfl ?_ rfl
    simp only[execOp]
    go_simp
    try go_num
    try (rw[IntKind.wrap_i64];omega)
   ·have x1:=(ev 12 rfl (by decide)).trans (hF 1 (by decide) (by simp[Region.binds]))
    refine plainV (v:=.pointer (some ⟨B,0,none⟩)) rfl rfl ?_ rfl
    simp only[execOp]
    go_simp
    try go_num
    try (rw[IntKind.wrap_i64];omega)
   ·have x2:=(ev 13 rfl (by decide)).trans (hF 2 (by decide) (by simp[Region.binds]))
    refine plainV (v:=.pointer (some ⟨B,11,none⟩)) rfl rfl ?_ rfl
    simp only[execOp]
    go_simp
    try go_num
    try (rw[IntKind.wrap_i64];omega)
   ·have x3:=(ev 14 rfl (by decide)).trans (hF 3 (by decide) (by simp[Region.binds]))
    refine plainV (v:=.pointer (some ⟨B,13,none⟩)) rfl rfl ?_ rfl
    simp only[execOp]
    go_simp
    try go_num
    try (rw[IntKind.wrap_i64];omega)
   ·have x4:=(ev 15 rfl (by decide)).trans (hF 4 (by decide) (by simp[Region.binds]))
    refine plainV (v:=.slice (some ⟨g,0,none⟩) L L) rfl rfl ?_ rfl
    simp only[execOp]
    go_simp
    try go_num
    try (rw[IntKind.wrap_i64];omega)
   ·refine plainV (v:=.pointer (some ⟨px+1,7,none⟩)) rfl rfl ?_ rfl
    simp only[execOp]
    go_simp
    try go_num
    try (rw[IntKind.wrap_i64];omega)
   ·have x6:=(ev 17 rfl (by decide)).trans (hF 6 (by decide) (by simp[Region.binds]))
    refine plainV (v:=.int .i64 (k:Int)) rfl rfl ?_ rfl
    simp only[execOp]
    go_simp
    try go_num
    try (rw[IntKind.wrap_i64];omega)
  ·intro o u W ho hB hF
   obtain rfl:=Option.some.inj ho
   have ev:∀s,DRc s=true→s<20→(ovr DRc A0 u).tmps[s]?.getD undef=u s:=fun s h1 h2=>(getD_at _ _).symm.trans (eval_in h1 (by omega))
   have o0:(ovr DRc A0 u).tmps[0]?.getD undef=_:=(getD_at _ _).symm.trans ((eval_out (D:=DRc) (a0:=A0) (u:=u) (s:=0) rfl (by omega)).trans e0)
   have o4:(ovr DRc A0 u).tmps[4]?.getD undef=_:=(getD_at _ _).symm.trans ((eval_out (D:=DRc) (a0:=A0) (u:=u) (s:=4) rfl (by omega)).trans e4)
   have o5:(ovr DRc A0 u).tmps[5]?.getD undef=_:=(getD_at _ _).symm.trans ((eval_out (D:=DRc) (a0:=A0) (u:=u) (s:=5) rfl (by omega)).trans e5)
   obtain⟨⟨p0,p1,p2,p3,p4,p5,p6,p7⟩,pz⟩:=pdb_cells ((hB.block _ (lt_of_block HT0.out)).trans HT0.out)
   obtain⟨⟨q0,q1,q2,q3,q4,q5,q6,q7⟩,qz⟩:=pdb_cells ((hB.block _ (lt_of_block HT1.out)).trans HT1.out)
   obtain⟨⟨y0,y1,y2,y3,y4,y5,y6,y7,y8,y9,y10,y11,y12,y13,y14,y15,y16,y17,y18,y19⟩,yz⟩:=becb_cells ((hB.block _ (lt_of_block HB.out)).trans HB.out)
   simp only at p0 p1 p2 p3 p4 p5 p6 p7 q0 q1 q2 q3 q4 q5 q6 q7
   clear pz qz yz
   have x0:=(ev 11 rfl (by decide)).trans (hF 0 (by decide))
   have x5:=(ev 16 rfl (by decide)).trans (hF 5 (by decide))
   have x7:=(ev 18 rfl (by decide)).trans (hF 7 (by decide))
   have hFW:Full W g xs:=full_belowR HF.out hB
   have LN:=HLN.out W hFW
   clear hFW y0 y1 y2 y3 y4 y5 y6 y7 y8 y9 y10 y11 y12 y13 y14 y15 y16 y17 y18 y19 p0 p1 p2 p3 p4 p5 p6 p7 q0 q1 q2 q3 q4 q5 q6 q7
   refine wp_call (f:=42) (args:=#[pdv ⟨s,f,c,h,false,m,.slice ua n uc,(j:Int)⟩,.slice (some ⟨g,0,none⟩) L L,.int .i64 (k:Int)]) ?_ (LN.mono ?_)
   ·simp only[execOp]
    go_simp
   ·rintro e w9 ⟨rfl,h8,h9⟩
    refine⟨_,rfl,_,put_in (d:=19) rfl rfl u _,?_⟩
    have H8:Hid _:=h8
    have H9:Hid (w.grownBy w9 (some g)):=grown_two (grown_two HG.out (grown_bel' hB (some g))) h9
    clear h8 h9 ev LN HLN o0 o4 o5 e0 e4 e5 sz x0 x5 x7 hB ho hF
    subst hA0
    simp[ovr,DRc,List.range,List.range.loop]
    generalize u=uA at *
    go_wp2
    go_end0
    exact⟨⟨rfl,H8.out⟩,H9.out⟩
 ·have HBA:Hid _:=B1
  clear HT0 HT1 HB HF HLN B1
  go_wp2_with (go_at_call 41;refine (giveUp_yes 3 _).mono ?_;rintro e w' ⟨rfl,rfl⟩)
  exact⟨rfl,⟨rfl,by rw[←hpx];exact HBA.out⟩,HG.out⟩
end Go.Proofs.YtemlagfaaibenaaGreat.hp
