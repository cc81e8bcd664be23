/-
  Chapter 18 as the program has it: giveUpIf, leaveNote.
  Made from the template RepI1 (mkrepi1.py).
-/
import Derived.Test.YtemlagfaaibenaaGreatRepS1
import Derived.Test.YtemlagfaaibenaaGreatM24
import Derived.Test.YtemlagfaaibenaaGreatM25
import Derived.Test.YtemlagfaaibenaaGreatFollowI3
import Derived.Test.YtemlagfaaibenaaGreatM2
import Derived.Test.YtemlagfaaibenaaGreatM7
import Derived.Defers
import Derived.Recover
namespace Go.Proofs.YtemlagfaaibenaaGreat.hp
open Go.RowKit rows heads words walks region
set_option maxRecDepth 100000
set_option linter.unusedVariables false
set_option linter.unusedSimpArgs false
abbrev gvUp (c:Int):PanicEntry:= { v:=.iface 105 (.agg #[.int .i64 c]),recovered:=false }
theorem giveUp_no (c:Int) (w:World):Calls Tryz.prog 41 #[.bool false,.int .i64 c] w fun e w'=>e = .returned (.tuple #[])∧w'=w:=by
 go_enter Tryz.func41,Tryz.ntmps41
 go_wp2
 go_end0
 exact⟨rfl,rfl⟩
theorem giveUp_yes (c:Int) (w:World):Calls Tryz.prog 41 #[.bool true,.int .i64 c] w fun e w'=>e = .panicked [gvUp c]∧w'=w:=by
 go_enter Tryz.func41,Tryz.ntmps41
 go_wp2
 exact⟨rfl,rfl,rfl⟩
theorem gset' (W:World) (g i:Nat) (v:Value):W.grownBy (W.setCell ⟨g,i,none⟩ v) (some g):=⟨rfl,rfl,rfl,by simp,fun j _ hn=>Below.heap_setCell W _ v j (fun e=>hn (by simp[e]))⟩
theorem full_belowR {w w':World} {b:Nat} {xs:List Int} (h:Full w b xs) (hb:Below w.heap.size w w'):Full w' b xs:=(hb.block b (lt_of_block h)).trans h
theorem heap_le_of_alloc (W:World) (v:Obj):W.heap.size≤(W.alloc v).heap.size:=by simp only[World.size_alloc];omega
theorem clear_last {w:World} {o:Oper} {a:Act} {K:Act→World→Prop} {Q:Exit→Act→World→Prop} (hgd:o.guard=none) (s:Operand)
    (ho:o.op = .call { callee:=.builtin .clear,args:=#[s],argTypes:=#[22] }) {g k n c:Nat} {xs:List Int} (hs:a.eval s = .slice (some ⟨g,k,none⟩) n c) (hn:0<n) (hF:Full w g xs) (hfit:k+n≤xs.length)
    (h:∀w',Hid (Full w' g (fill xs k n 0))→Hid (w.grownBy w' (some g))→K (a.put o.dst (.tuple #[])) w'):Oper.wp Tryz.prog o a w K Q:=by
 have:=step_clear_ints (ops:=#[]) (E:=True) hgd s ho hs hn hF hfit h (Q:=Q)
 rwa [if_pos (by simp[Region.wanted,hgd])]at this
def dCa (k:Nat):Nat:=match k with
 |0=>6
 |1=>7
 |2=>8
 |3=>9
 |4=>10
 |5=>11
 |6=>12
 |7=>13
 |8=>14
 |9=>15
 |_=>2000
theorem dCa_inj:∀k,k<10→∀j,j<10→dCa j=dCa k→j=k:=by decide
def DCa (s:Nat):Bool:=s==6 || s==7 || s==8 || s==9 || s==10 || s==11 || s==12 || s==13 || s==14 || s==15
def FCa (pB g L n j uc:Nat) (ua:Option Addr) (s f c h:Int) (p m:Bool) (k:Nat) (t:Value) (_:World):Prop:=
 match k with
 |0=>t = .slice (some ⟨g,0,none⟩) L L
 |1=>t = .pointer (some ⟨pB,7,none⟩)
 |2=>t = .int .i64 (j:Int)
 |3=>t = .pointer (some ⟨pB,7,none⟩)
 |4=>t = .int .i64 (j:Int)
 |5=>t = .pointer (some ⟨pB,0,none⟩)
 |6=>t=cv s f c h p m (.slice ua n uc)
 |7=>t = .int .i64 (n:Int)
 |8=>t = .int .i64 ((j:Int)+(n:Int))
 |9=>t = .slice (some ⟨g,j,none⟩) n (L-j)
 |_=>False
def dCb (k:Nat):Nat:=match k with
 |0=>16
 |1=>17
 |2=>18
 |3=>19
 |4=>20
 |5=>21
 |6=>22
 |7=>23
 |8=>24
 |9=>25
 |_=>2000
theorem dCb_inj:∀k,k<10→∀j,j<10→dCb j=dCb k→j=k:=by decide
def DCb (s:Nat):Bool:=s==16 || s==17 || s==18 || s==19 || s==20 || s==21 || s==22 || s==23 || s==24 || s==25
def FCb (pB g L j:Nat) (s:Int) (k:Nat) (t:Value) (_:World):Prop:=
 match k with
 |0=>t = .slice (some ⟨g,0,none⟩) L L
 |1=>t = .pointer (some ⟨pB,7,none⟩)
 |2=>t = .int .i64 (j:Int)
 |3=>t = .pointer (some ⟨pB,0,none⟩)
 |4=>t = .pointer (some ⟨pB,0,none⟩)
 |5=>t = .pointer (some ⟨pB,0,none⟩)
 |6=>t = .int .i64 s
 |7=>t=hv s 7 0 0 false false
 |8=>t = .int .i64 (pk s 7 0 0 false false)
 |9=>t = .pointer (some ⟨g,j,none⟩)
 |_=>False
def dCc (k:Nat):Nat:=match k with
 |0=>26
 |1=>27
 |2=>28
 |3=>29
 |4=>30
 |5=>31
 |6=>32
 |_=>2000
theorem dCc_inj:∀k,k<7→∀j,j<7→dCc j=dCc k→j=k:=by decide
def DCc (s:Nat):Bool:=s==26 || s==27 || s==28 || s==29 || s==30 || s==31 || s==32
def FCc (pB g L j tn:Nat) (k:Nat) (t:Value) (_:World):Prop:=
 match k with
 |0=>t = .slice (some ⟨g,0,none⟩) L L
 |1=>t = .pointer (some ⟨pB,7,none⟩)
 |2=>t = .int .i64 (j:Int)
 |3=>t = .int .i64 ((j:Int)+1)
 |4=>t = .int .i64 (tn:Int)
 |5=>t = .int .i64 (4*(tn:Int)+4)
 |6=>t = .pointer (some ⟨g,j+1,none⟩)
 |_=>False
set_option maxHeartbeats 16000000 in
theorem leaveNote_any {w:World} {g j n tn uc:Nat} {ua:Option Addr} {xs:List Int} {s f c h:Int} {p m:Bool} (hF:Full w g xs) (hl:xs.length≤1000) (s0:0≤s) (s1:s≤20) (hn:sz s=(n:Int)) (hfit:j+n≤xs.length) (ht:tn≤999) :
    Calls Tryz.prog 42 #[pdv ⟨s,f,c,h,p,m,.slice ua n uc,(j:Int)⟩,.slice (some ⟨g,0,none⟩) xs.length xs.length,.int .i64 (tn:Int)] w fun e w'=>e = .returned (.tuple #[])∧Full w' g (put xs j (pk s 7 0 0 false false) [4*(tn:Int)+4] 1 n)∧w.grownBy w' (some g):=by
 have hsz:=sz_bounds s0 s1
 have h2:2≤n:=by omega
 have hok7:∀s:Fin 21,heads.hok (s.val:Int) 7 0 0 false false=true:=by decide
 have hok:=hok7 ⟨s.toNat,by omega⟩
 simp only at hok
 rw[Int.toNat_of_nonneg s0]at hok
 have HPK:Hid (∀W,Calls Tryz.prog 80 #[hv s 7 0 0 false false] W fun e w'=>e = .returned (.int .i64 (pk s 7 0 0 false false))∧Below W.heap.size W w'):=fun W=>by
  refine (packed_any s 7 0 0 false false W).mono ?_
  rintro e w' ⟨rfl,rfl⟩
  exact⟨by unfold pkd;rw[if_pos hok],((Below.refl _ _).alloc (Nat.le_refl _) _).alloc (heap_le_of_alloc W _) _⟩
 have HOA:Hid (∀V,Calls Tryz.prog 73 #[.int .i64 (tn:Int)] V fun e w'=>e = .returned (.int .i64 (4*(tn:Int)+4))∧w'=V):=fun V=>by
  have e:oa (tn:Int)=4*(tn:Int)+4:=by
   unfold oa
   rw[if_pos (by omega)]
   omega
  rw[←e]
  exact ofAddr_any (tn:Int) V
 obtain⟨pB,hpB⟩:∃pB,w.heap.size=pB:=⟨_,rfl⟩
 have hgw:=lt_of_block hF
 have hpg:¬pB=g:=by omega
 have B0:Below w.heap.size w (w.alloc (pdb ⟨s,f,c,h,p,m,.slice ua n uc,(j:Int)⟩)):=(Below.refl _ _).alloc (Nat.le_refl _) _
 have HP:Hid ((w.alloc (pdb ⟨s,f,c,h,p,m,.slice ua n uc,(j:Int)⟩)).heap[pB]? = some (pdb ⟨s,f,c,h,p,m,.slice ua n uc,(j:Int)⟩)):=by
  show _=_
  rw[←hpB]
  exact heap_alloc_new w _
 have HF:Hid _:=full_belowR hF B0
 have HG:Hid _:=grown_bel' B0 (some g)
 obtain⟨L,hL⟩:∃L,xs.length=L:=⟨_,rfl⟩
 rw[hL]
 have hjL:j+n≤L:=by omega
 have hL1:L≤1000:=by omega
 clear hF B0 hok hok7 hn s0 s1 hsz
 go_enter Tryz.func42,Tryz.ntmps42
 go_upto_region 1 with fail
 generalize hV:w.alloc (Obj.cells _ _)=V0
 have hV0:w.alloc (pdb ⟨s,f,c,h,p,m,.slice ua n uc,(j:Int)⟩)=V0:=hV
 rw[hV0]at HP HF HG
 clear hV hV0 hpB
 generalize hA0:(Act.mk _ [])=A0
 have e1:A0.tmps.getD 1 undef = .slice (some ⟨g,0,none⟩) L L:=by rw[←hA0];rfl
 have e3:A0.tmps.getD 3 undef = .pointer (some ⟨pB,0,none⟩):=by rw[←hA0];rfl
 have sz:A0.tmps.size=33:=by rw[←hA0];rfl
 refine wp_region_last (by kernel_rfl) DCa (by simp) ?_ 10 rfl dCa dCa_inj (FCa pB g L n j uc ua s f c h p m) ?_ ?_ ?_ ?_
 ·intro k o ho
  have hk:k<11:=(Array.getElem?_eq_some_iff.1 ho).1
  rcases (show k=0∨k=1∨k=2∨k=3∨k=4∨k=5∨k=6∨k=7∨k=8∨k=9∨k=10 by omega) with rfl|rfl|rfl|rfl|rfl|rfl|rfl|rfl|rfl|rfl|rfl<;>(obtain rfl:=Option.some.inj ho;simp)
 ·intro k t W W' hb h
  match k,h with
  |0,h=>exact h
  |1,h=>exact h
  |2,h=>exact h
  |3,h=>exact h
  |4,h=>exact h
  |5,h=>exact h
  |6,h=>exact h
  |7,h=>exact h
  |8,h=>exact h
  |9,h=>exact h
  |_+10,h=>exact h.elim
 ·intro l hC kk hkk
  have CL:=hC 10 _ rfl (fun h=>by omega)
  have l9:l 9=true:=CL ⟨9,.data⟩ (by simp) (by simp[Region.binds])
  have l0:l 0=true:=hC 9 _ rfl (fun _=>l9) ⟨0,.data⟩ (by simp) (by simp[Region.binds])
  have l2:l 2=true:=hC 9 _ rfl (fun _=>l9) ⟨2,.data⟩ (by simp) (by simp[Region.binds])
  have l8:l 8=true:=hC 9 _ rfl (fun _=>l9) ⟨8,.data⟩ (by simp) (by simp[Region.binds])
  have l1:l 1=true:=hC 2 _ rfl (fun _=>l2) ⟨1,.data⟩ (by simp) (by simp[Region.binds])
  have l4:l 4=true:=hC 8 _ rfl (fun _=>l8) ⟨4,.data⟩ (by simp) (by simp[Region.binds])
  have l7:l 7=true:=hC 8 _ rfl (fun _=>l8) ⟨7,.data⟩ (by simp) (by simp[Region.binds])
  have l3:l 3=true:=hC 4 _ rfl (fun _=>l4) ⟨3,.data⟩ (by simp) (by simp[Region.binds])
  have l6:l 6=true:=hC 7 _ rfl (fun _=>l7) ⟨6,.data⟩ (by simp) (by simp[Region.binds])
  have l5:l 5=true:=hC 6 _ rfl (fun _=>l6) ⟨5,.data⟩ (by simp) (by simp[Region.binds])
  rcases (show kk=0∨kk=1∨kk=2∨kk=3∨kk=4∨kk=5∨kk=6∨kk=7∨kk=8∨kk=9 by omega) with rfl|rfl|rfl|rfl|rfl|rfl|rfl|rfl|rfl|rfl
  ·exact l0
  ·exact l1
  ·exact l2
  ·exact l3
  ·exact l4
  ·exact l5
  ·exact l6
  ·exact l7
  ·exact l8
  ·exact l9
 ·intro k o u W hk ho hB hF
  have ev:∀s,DCa s=true→s<33→(ovr DCa A0 u).tmps[s]?.getD undef=u s:=fun s h1 h2=>(getD_at _ _).symm.trans (eval_in h1 (by omega))
  have o1:(ovr DCa A0 u).tmps[1]?.getD undef=_:=(getD_at _ _).symm.trans ((eval_out (D:=DCa) (a0:=A0) (u:=u) (s:=1) rfl (by omega)).trans e1)
  have o3:(ovr DCa A0 u).tmps[3]?.getD undef=_:=(getD_at _ _).symm.trans ((eval_out (D:=DCa) (a0:=A0) (u:=u) (s:=3) rfl (by omega)).trans e3)
  obtain⟨⟨p0,p1,p2,p3,p4,p5,p6,p7⟩,pz⟩:=pdb_cells ((hB.block _ (lt_of_block HP.out)).trans HP.out)
  simp only at p0 p1 p2 p3 p4 p5 p6 p7
  rcases (show k=0∨k=1∨k=2∨k=3∨k=4∨k=5∨k=6∨k=7∨k=8∨k=9 by omega) with rfl|rfl|rfl|rfl|rfl|rfl|rfl|rfl|rfl|rfl
  all_goals obtain rfl:=Option.some.inj ho
  ·refine plainV (v:=.slice (some ⟨g,0,none⟩) L L) rfl rfl ?_ rfl
   simp only[execOp]
   go_simp
   try go_num
   try (rw[IntKind.wrap_i64];omega)
  ·refine plainV (v:=.pointer (some ⟨pB,7,none⟩)) rfl rfl ?_ rfl
   simp only[execOp]
   go_simp
   try go_num
   try (rw[IntKind.wrap_i64];omega)
  ·have x1:=(ev 7 rfl (by decide)).trans (hF 1 (by decide) (by simp[Region.binds]))
   refine plainV (v:=.int .i64 (j:Int)) rfl rfl ?_ rfl
   simp only[execOp]
   go_simp
   try go_num
   try (rw[IntKind.wrap_i64];omega)
  ·refine plainV (v:=.pointer (some ⟨pB,7,none⟩)) rfl rfl ?_ rfl
   simp only[execOp]
   go_simp
   try go_num
   try (rw[IntKind.wrap_i64];omega)
  ·have x3:=(ev 9 rfl (by decide)).trans (hF 3 (by decide) (by simp[Region.binds]))
   refine plainV (v:=.int .i64 (j:Int)) rfl rfl ?_ rfl
   simp only[execOp]
   go_simp
   try go_num
   try (rw[IntKind.wrap_i64];omega)
  ·refine plainV (v:=.pointer (some ⟨pB,0,none⟩)) rfl rfl ?_ rfl
   simp only[execOp]
   go_simp
   try go_num
   try (rw[IntKind.wrap_i64];omega)
  ·have x5:=(ev 11 rfl (by decide)).trans (hF 5 (by decide) (by simp[Region.binds]))
   refine plainV (v:=cv s f c h p m (.slice ua n uc)) rfl rfl ?_ rfl
   simp only[execOp]
   go_simp
   try go_num
   try (rw[IntKind.wrap_i64];omega)
  ·have x6:=(ev 12 rfl (by decide)).trans (hF 6 (by decide) (by simp[Region.binds]))
   refine plainC (f:=69) (args:=#[cv s f c h p m (.slice ua n uc)]) rfl rfl ?_ ((size_any s f c h p m ua n uc W).mono ?_)
   ·simp only[execOp]
    go_simp
   ·rintro e w' ⟨rfl,rfl⟩
    exact⟨_,rfl,(Below.refl _ _).alloc (Nat.le_refl _) _,rfl⟩
  ·have x4:=(ev 10 rfl (by decide)).trans (hF 4 (by decide) (by simp[Region.binds]))
   have x7:=(ev 13 rfl (by decide)).trans (hF 7 (by decide) (by simp[Region.binds]))
   refine plainV (v:=.int .i64 ((j:Int)+(n:Int))) rfl rfl ?_ rfl
   simp only[execOp]
   go_simp
   try go_num
   try (rw[IntKind.wrap_i64];omega)
  ·have x0:=(ev 6 rfl (by decide)).trans (hF 0 (by decide) (by simp[Region.binds]))
   have x2:=(ev 8 rfl (by decide)).trans (hF 2 (by decide) (by simp[Region.binds]))
   have x8:=(ev 14 rfl (by decide)).trans (hF 8 (by decide) (by simp[Region.binds]))
   refine plainV (v:=.slice (some ⟨g,j,none⟩) n (L-j)) rfl rfl ?_ rfl
   simp only[execOp]
   go_simp
   rw[if_pos (by omega),if_pos (by omega),if_neg (by omega),show ((j:Int)+(n:Int)).toNat-j=n by omega]
 ·intro o u W ho hB hF
  obtain rfl:=Option.some.inj ho
  have ev:∀s,DCa s=true→s<33→(ovr DCa A0 u).tmps[s]?.getD undef=u s:=fun s h1 h2=>(getD_at _ _).symm.trans (eval_in h1 (by omega))
  have o1:(ovr DCa A0 u).tmps[1]?.getD undef=_:=(getD_at _ _).symm.trans ((eval_out (D:=DCa) (a0:=A0) (u:=u) (s:=1) rfl (by omega)).trans e1)
  have o3:(ovr DCa A0 u).tmps[3]?.getD undef=_:=(getD_at _ _).symm.trans ((eval_out (D:=DCa) (a0:=A0) (u:=u) (s:=3) rfl (by omega)).trans e3)
  obtain⟨⟨p0,p1,p2,p3,p4,p5,p6,p7⟩,pz⟩:=pdb_cells ((hB.block _ (lt_of_block HP.out)).trans HP.out)
  simp only at p0 p1 p2 p3 p4 p5 p6 p7
  have x9:=(ev 15 rfl (by decide)).trans (hF 9 (by decide))
  have hFW:Full W g xs:=full_belowR HF.out hB
  refine clear_last rfl (.tmp 15) rfl ((getD_at _ _).trans x9) (by omega) hFW (by omega) ?_
  intro W' h1 h2
  refine⟨u,put_no rfl u _,?_⟩
  have HF1:Hid (Full W' g (fill xs j n 0)):=h1.out
  have HG1:Hid (w.grownBy W' (some g)):=grown_two (grown_two HG.out (grown_bel' hB (some g))) h2.out
  have HP1:Hid (W'.heap[pB]? = some (pdb ⟨s,f,c,h,p,m,.slice ua n uc,(j:Int)⟩)):=(h2.out.block pB (by have:=lt_of_block HP.out;have:=hB.size;omega) (fun e=>hpg (by injection e))).trans ((hB.block _ (lt_of_block HP.out)).trans HP.out)
  clear h1 h2 ev o1 o3 e1 e3 sz x9 hB ho hF hFW p0 p1 p2 p3 p4 p5 p6 p7 pz HF HG HP
  subst hA0
  simp[ovr,DCa,List.range,List.range.loop]
  generalize u=uA at *
  clear W
  generalize W'=V1 at *
  go_upto_region 2 with fail
  have HL1:Hid ((fill xs j n 0).length=L):=by show _=_;rw[fill_length (by omega)];exact hL
  generalize hA0:(Act.mk _ [])=A0
  have e1:A0.tmps.getD 1 undef = .slice (some ⟨g,0,none⟩) L L:=by rw[←hA0];rfl
  have e3:A0.tmps.getD 3 undef = .pointer (some ⟨pB,0,none⟩):=by rw[←hA0];rfl
  have sz:A0.tmps.size=33:=by rw[←hA0];rfl
  refine wp_region_last (by kernel_rfl) DCb (by simp) ?_ 10 rfl dCb dCb_inj (FCb pB g L j s) ?_ ?_ ?_ ?_
  ·intro k o ho
   have hk:k<11:=(Array.getElem?_eq_some_iff.1 ho).1
   rcases (show k=0∨k=1∨k=2∨k=3∨k=4∨k=5∨k=6∨k=7∨k=8∨k=9∨k=10 by omega) with rfl|rfl|rfl|rfl|rfl|rfl|rfl|rfl|rfl|rfl|rfl<;>(obtain rfl:=Option.some.inj ho;simp)
  ·intro k t W W' hb h
   match k,h with
   |0,h=>exact h
   |1,h=>exact h
   |2,h=>exact h
   |3,h=>exact h
   |4,h=>exact h
   |5,h=>exact h
   |6,h=>exact h
   |7,h=>exact h
   |8,h=>exact h
   |9,h=>exact h
   |_+10,h=>exact h.elim
  ·intro l hC kk hkk
   have CL:=hC 10 _ rfl (fun h=>by omega)
   have l9:l 9=true:=CL ⟨9,.data⟩ (by simp) (by simp[Region.binds])
   have l8:l 8=true:=CL ⟨8,.data⟩ (by simp) (by simp[Region.binds])
   have l0:l 0=true:=hC 9 _ rfl (fun _=>l9) ⟨0,.data⟩ (by simp) (by simp[Region.binds])
   have l2:l 2=true:=hC 9 _ rfl (fun _=>l9) ⟨2,.data⟩ (by simp) (by simp[Region.binds])
   have l1:l 1=true:=hC 2 _ rfl (fun _=>l2) ⟨1,.data⟩ (by simp) (by simp[Region.binds])
   have l7:l 7=true:=hC 8 _ rfl (fun _=>l8) ⟨7,.data⟩ (by simp) (by simp[Region.binds])
   have l6:l 6=true:=hC 7 _ rfl (fun _=>l7) ⟨6,.data⟩ (by simp) (by simp[Region.binds])
   have l5:l 5=true:=hC 6 _ rfl (fun _=>l6) ⟨5,.data⟩ (by simp) (by simp[Region.binds])
   have l4:l 4=true:=hC 5 _ rfl (fun _=>l5) ⟨4,.data⟩ (by simp) (by simp[Region.binds])
   have l3:l 3=true:=hC 4 _ rfl (fun _=>l4) ⟨3,.data⟩ (by simp) (by simp[Region.binds])
   rcases (show kk=0∨kk=1∨kk=2∨kk=3∨kk=4∨kk=5∨kk=6∨kk=7∨kk=8∨kk=9 by omega) with rfl|rfl|rfl|rfl|rfl|rfl|rfl|rfl|rfl|rfl
   ·exact l0
   ·exact l1
   ·exact l2
   ·exact l3
   ·exact l4
   ·exact l5
   ·exact l6
   ·exact l7
   ·exact l8
   ·exact l9
  ·intro k o u W hk ho hB hF
   have ev:∀s,DCb s=true→s<33→(ovr DCb A0 u).tmps[s]?.getD undef=u s:=fun s h1 h2=>(getD_at _ _).symm.trans (eval_in h1 (by omega))
   have o1:(ovr DCb A0 u).tmps[1]?.getD undef=_:=(getD_at _ _).symm.trans ((eval_out (D:=DCb) (a0:=A0) (u:=u) (s:=1) rfl (by omega)).trans e1)
   have o3:(ovr DCb A0 u).tmps[3]?.getD undef=_:=(getD_at _ _).symm.trans ((eval_out (D:=DCb) (a0:=A0) (u:=u) (s:=3) rfl (by omega)).trans e3)
   obtain⟨⟨p0,p1,p2,p3,p4,p5,p6,p7⟩,pz⟩:=pdb_cells ((hB.block _ (lt_of_block HP1.out)).trans HP1.out)
   simp only at p0 p1 p2 p3 p4 p5 p6 p7
   rcases (show k=0∨k=1∨k=2∨k=3∨k=4∨k=5∨k=6∨k=7∨k=8∨k=9 by omega) with rfl|rfl|rfl|rfl|rfl|rfl|rfl|rfl|rfl|rfl
   all_goals obtain rfl:=Option.some.inj ho
   ·refine plainV (v:=.slice (some ⟨g,0,none⟩) L L) rfl rfl ?_ rfl
    simp only[execOp]
    go_simp
    try go_num
    try (rw[IntKind.wrap_i64];omega)
   ·refine plainV (v:=.pointer (some ⟨pB,7,none⟩)) rfl rfl ?_ rfl
    simp only[execOp]
    go_simp
    try go_num
    try (rw[IntKind.wrap_i64];omega)
   ·have x1:=(ev 17 rfl (by decide)).trans (hF 1 (by decide) (by simp[Region.binds]))
    refine plainV (v:=.int .i64 (j:Int)) rfl rfl ?_ rfl
    simp only[execOp]
    go_simp
    try go_num
    try (rw[IntKind.wrap_i64];omega)
   ·refine plainV (v:=.pointer (some ⟨pB,0,none⟩)) rfl rfl ?_ rfl
    simp only[execOp]
    go_simp
    try go_num
    try (rw[IntKind.wrap_i64];omega)
   ·have x3:=(ev 19 rfl (by decide)).trans (hF 3 (by decide) (by simp[Region.binds]))
    refine plainV (v:=.pointer (some ⟨pB,0,none⟩)) rfl rfl ?_ rfl
    simp only[execOp]
    go_simp
    try go_num
    try (rw[IntKind.wrap_i64];omega)
   ·have x4:=(ev 20 rfl (by decide)).trans (hF 4 (by decide) (by simp[Region.binds]))
    refine plainV (v:=.pointer (some ⟨pB,0,none⟩)) rfl rfl ?_ rfl
    simp only[execOp]
    go_simp
    try go_num
    try (rw[IntKind.wrap_i64];omega)
   ·have x5:=(ev 21 rfl (by decide)).trans (hF 5 (by decide) (by simp[Region.binds]))
    refine plainV (v:=.int .i64 s) rfl rfl ?_ rfl
    simp only[execOp]
    go_simp
    try go_num
    try (rw[IntKind.wrap_i64];omega)
   ·have x6:=(ev 22 rfl (by decide)).trans (hF 6 (by decide) (by simp[Region.binds]))
    refine plainV (v:=hv s 7 0 0 false false) rfl rfl ?_ rfl
    simp only[execOp]
    go_simp
    try go_num
    try (rw[IntKind.wrap_i64];omega)
   ·have x7:=(ev 23 rfl (by decide)).trans (hF 7 (by decide) (by simp[Region.binds]))
    refine plainC (f:=80) (args:=#[hv s 7 0 0 false false]) rfl rfl ?_ ((HPK.out W).mono ?_)
    ·simp only[execOp]
     go_simp
    ·rintro e w' ⟨rfl,hb⟩
     exact⟨_,rfl,hb,rfl⟩
   ·have x0:=(ev 16 rfl (by decide)).trans (hF 0 (by decide) (by simp[Region.binds]))
    have x2:=(ev 18 rfl (by decide)).trans (hF 2 (by decide) (by simp[Region.binds]))
    refine plainV (v:=.pointer (some ⟨g,j,none⟩)) rfl rfl ?_ rfl
    simp only[execOp]
    go_simp
    try go_num
    try (rw[IntKind.wrap_i64];omega)
  ·intro o u W ho hB hF
   obtain rfl:=Option.some.inj ho
   have ev:∀s,DCb s=true→s<33→(ovr DCb A0 u).tmps[s]?.getD undef=u s:=fun s h1 h2=>(getD_at _ _).symm.trans (eval_in h1 (by omega))
   have o1:(ovr DCb A0 u).tmps[1]?.getD undef=_:=(getD_at _ _).symm.trans ((eval_out (D:=DCb) (a0:=A0) (u:=u) (s:=1) rfl (by omega)).trans e1)
   have o3:(ovr DCb A0 u).tmps[3]?.getD undef=_:=(getD_at _ _).symm.trans ((eval_out (D:=DCb) (a0:=A0) (u:=u) (s:=3) rfl (by omega)).trans e3)
   obtain⟨⟨p0,p1,p2,p3,p4,p5,p6,p7⟩,pz⟩:=pdb_cells ((hB.block _ (lt_of_block HP1.out)).trans HP1.out)
   simp only at p0 p1 p2 p3 p4 p5 p6 p7
   have x8:=(ev 24 rfl (by decide)).trans (hF 8 (by decide))
   have x9:=(ev 25 rfl (by decide)).trans (hF 9 (by decide))
   have hFW:Full W g (fill xs j n 0):=full_belowR HF1.out hB
   have hc:=full_cell hFW (i:=j) (by rw[HL1.out];omega)
   have hfz:=full_frozen hFW (j)
   generalize (fill xs j n 0).getD (j) 0=old at hc
   refine wp_skip' (w':=W.setCell ⟨g,j,none⟩ (.int .i64 (pk s 7 0 0 false false))) ?_ ⟨u,put_no rfl u undef,?_⟩
   ·simp only[execOp]
    go_simp
   have HF2:Hid (Full (W.setCell ⟨g,j,none⟩ (.int .i64 (pk s 7 0 0 false false))) g ((fill xs j n 0).set (j) (pk s 7 0 0 false false))):=full_set hFW (j) (pk s 7 0 0 false false)
   have h2:W.grownBy (W.setCell ⟨g,j,none⟩ (.int .i64 (pk s 7 0 0 false false))) (some g):=gset' W g (j) (.int .i64 (pk s 7 0 0 false false))
   have HG2:Hid (w.grownBy (W.setCell ⟨g,j,none⟩ (.int .i64 (pk s 7 0 0 false false))) (some g)):=grown_two (grown_two HG1.out (grown_bel' hB (some g))) h2
   have HP2:Hid ((W.setCell ⟨g,j,none⟩ (.int .i64 (pk s 7 0 0 false false))).heap[pB]? = some (pdb ⟨s,f,c,h,p,m,.slice ua n uc,(j:Int)⟩)):=(h2.block pB (by have:=lt_of_block HP1.out;have:=hB.size;omega) (fun e=>hpg (by injection e))).trans ((hB.block _ (lt_of_block HP1.out)).trans HP1.out)
   generalize W.setCell ⟨g,j,none⟩ (.int .i64 (pk s 7 0 0 false false))=V2 at *
   clear h2 hc hfz ev o1 o3 e1 e3 sz x8 x9 hB ho hF hFW p0 p1 p2 p3 p4 p5 p6 p7 pz HF1 HG1 HP1 HL1
   subst hA0
   simp[ovr,DCb,List.range,List.range.loop]
   generalize u=uB at *
   clear W
   go_upto_region 3 with fail
   have HL1:Hid (((fill xs j n 0).set j (pk s 7 0 0 false false)).length=L):=by show _=_;rw[List.length_set,fill_length (by omega)];exact hL
   have HF1:=HF2
   have HG1:=HG2
   have HP1:=HP2
   generalize hA0:(Act.mk _ [])=A0
   have e1:A0.tmps.getD 1 undef = .slice (some ⟨g,0,none⟩) L L:=by rw[←hA0];rfl
   have e2:A0.tmps.getD 2 undef = .int .i64 (tn:Int):=by rw[←hA0];rfl
   have e3:A0.tmps.getD 3 undef = .pointer (some ⟨pB,0,none⟩):=by rw[←hA0];rfl
   have sz:A0.tmps.size=33:=by rw[←hA0];rfl
   refine wp_region_last (by kernel_rfl) DCc (by simp) ?_ 7 rfl dCc dCc_inj (FCc pB g L j tn) ?_ ?_ ?_ ?_
   ·intro k o ho
    have hk:k<8:=(Array.getElem?_eq_some_iff.1 ho).1
    rcases (show k=0∨k=1∨k=2∨k=3∨k=4∨k=5∨k=6∨k=7 by omega) with rfl|rfl|rfl|rfl|rfl|rfl|rfl|rfl<;>(obtain rfl:=Option.some.inj ho;simp)
   ·intro k t W W' hb h
    match k,h with
    |0,h=>exact h
    |1,h=>exact h
    |2,h=>exact h
    |3,h=>exact h
    |4,h=>exact h
    |5,h=>exact h
    |6,h=>exact h
    |_+7,h=>exact h.elim
   ·intro l hC kk hkk
    have CL:=hC 7 _ rfl (fun h=>by omega)
    have l6:l 6=true:=CL ⟨6,.data⟩ (by simp) (by simp[Region.binds])
    have l5:l 5=true:=CL ⟨5,.data⟩ (by simp) (by simp[Region.binds])
    have l0:l 0=true:=hC 6 _ rfl (fun _=>l6) ⟨0,.data⟩ (by simp) (by simp[Region.binds])
    have l3:l 3=true:=hC 6 _ rfl (fun _=>l6) ⟨3,.data⟩ (by simp) (by simp[Region.binds])
    have l2:l 2=true:=hC 3 _ rfl (fun _=>l3) ⟨2,.data⟩ (by simp) (by simp[Region.binds])
    have l1:l 1=true:=hC 2 _ rfl (fun _=>l2) ⟨1,.data⟩ (by simp) (by simp[Region.binds])
    have l4:l 4=true:=hC 5 _ rfl (fun _=>l5) ⟨4,.data⟩ (by simp) (by simp[Region.binds])
    rcases (show kk=0∨kk=1∨kk=2∨kk=3∨kk=4∨kk=5∨kk=6 by omega) with rfl|rfl|rfl|rfl|rfl|rfl|rfl
    ·exact l0
    ·exact l1
    ·exact l2
    ·exact l3
    ·exact l4
    ·exact l5
    ·exact l6
   ·intro k o u W hk ho hB hF
    have ev:∀s,DCc s=true→s<33→(ovr DCc A0 u).tmps[s]?.getD undef=u s:=fun s h1 h2=>(getD_at _ _).symm.trans (eval_in h1 (by omega))
    have o1:(ovr DCc A0 u).tmps[1]?.getD undef=_:=(getD_at _ _).symm.trans ((eval_out (D:=DCc) (a0:=A0) (u:=u) (s:=1) rfl (by omega)).trans e1)
    have o2:(ovr DCc A0 u).tmps[2]?.getD undef=_:=(getD_at _ _).symm.trans ((eval_out (D:=DCc) (a0:=A0) (u:=u) (s:=2) rfl (by omega)).trans e2)
    have o3:(ovr DCc A0 u).tmps[3]?.getD undef=_:=(getD_at _ _).symm.trans ((eval_out (D:=DCc) (a0:=A0) (u:=u) (s:=3) rfl (by omega)).trans e3)
    obtain⟨⟨p0,p1,p2,p3,p4,p5,p6,p7⟩,pz⟩:=pdb_cells ((hB.block _ (lt_of_block HP2.out)).trans HP2.out)
    simp only at p0 p1 p2 p3 p4 p5 p6 p7
    rcases (show k=0∨k=1∨k=2∨k=3∨k=4∨k=5∨k=6 by omega) with rfl|rfl|rfl|rfl|rfl|rfl|rfl
    all_goals obtain rfl:=Option.some.inj ho
    ·refine plainV (v:=.slice (some ⟨g,0,none⟩) L L) rfl rfl ?_ rfl
     simp only[execOp]
     go_simp
     try go_num
     try (rw[IntKind.wrap_i64];omega)
    ·refine plainV (v:=.pointer (some ⟨pB,7,none⟩)) rfl rfl ?_ rfl
     simp only[execOp]
     go_simp
     try go_num
     try (rw[IntKind.wrap_i64];omega)
    ·have x1:=(ev 27 rfl (by decide)).trans (hF 1 (by decide) (by simp[Region.binds]))
     refine plainV (v:=.int .i64 (j:Int)) rfl rfl ?_ rfl
     simp only[execOp]
     go_simp
     try go_num
     try (rw[IntKind.wrap_i64];omega)
    ·have x2:=(ev 28 rfl (by decide)).trans (hF 2 (by decide) (by simp[Region.binds]))
     refine plainV (v:=.int .i64 ((j:Int)+1)) rfl rfl ?_ rfl
     simp only[execOp]
     go_simp
     try go_num
     try (rw[IntKind.wrap_i64];omega)
    ·refine plainV (v:=.int .i64 (tn:Int)) rfl rfl ?_ rfl
     simp only[execOp]
     go_simp
     try go_num
     try (rw[IntKind.wrap_i64];omega)
    ·have x4:=(ev 30 rfl (by decide)).trans (hF 4 (by decide) (by simp[Region.binds]))
     refine plainC (f:=73) (args:=#[.int .i64 (tn:Int)]) rfl rfl ?_ ((HOA.out W).mono ?_)
     ·simp only[execOp]
      go_simp
     ·rintro e w' ⟨rfl,rfl⟩
      exact⟨_,rfl,Below.refl _ _,rfl⟩
    ·have x0:=(ev 26 rfl (by decide)).trans (hF 0 (by decide) (by simp[Region.binds]))
     have x3:=(ev 29 rfl (by decide)).trans (hF 3 (by decide) (by simp[Region.binds]))
     refine plainV (v:=.pointer (some ⟨g,j+1,none⟩)) rfl rfl ?_ rfl
     simp only[execOp]
     go_simp
     try go_num
     try (rw[IntKind.wrap_i64];omega)
   ·intro o u W ho hB hF
    obtain rfl:=Option.some.inj ho
    have ev:∀s,DCc s=true→s<33→(ovr DCc A0 u).tmps[s]?.getD undef=u s:=fun s h1 h2=>(getD_at _ _).symm.trans (eval_in h1 (by omega))
    have o1:(ovr DCc A0 u).tmps[1]?.getD undef=_:=(getD_at _ _).symm.trans ((eval_out (D:=DCc) (a0:=A0) (u:=u) (s:=1) rfl (by omega)).trans e1)
    have o2:(ovr DCc A0 u).tmps[2]?.getD undef=_:=(getD_at _ _).symm.trans ((eval_out (D:=DCc) (a0:=A0) (u:=u) (s:=2) rfl (by omega)).trans e2)
    have o3:(ovr DCc A0 u).tmps[3]?.getD undef=_:=(getD_at _ _).symm.trans ((eval_out (D:=DCc) (a0:=A0) (u:=u) (s:=3) rfl (by omega)).trans e3)
    obtain⟨⟨p0,p1,p2,p3,p4,p5,p6,p7⟩,pz⟩:=pdb_cells ((hB.block _ (lt_of_block HP2.out)).trans HP2.out)
    simp only at p0 p1 p2 p3 p4 p5 p6 p7
    have x5:=(ev 31 rfl (by decide)).trans (hF 5 (by decide))
    have x6:=(ev 32 rfl (by decide)).trans (hF 6 (by decide))
    have hFW:Full W g ((fill xs j n 0).set j (pk s 7 0 0 false false)):=full_belowR HF1.out hB
    have hc:=full_cell hFW (i:=j+1) (by rw[HL1.out];omega)
    have hfz:=full_frozen hFW (j+1)
    generalize ((fill xs j n 0).set j (pk s 7 0 0 false false)).getD (j+1) 0=old at hc
    refine wp_skip' (w':=W.setCell ⟨g,j+1,none⟩ (.int .i64 (4*(tn:Int)+4))) ?_ ⟨u,put_no rfl u undef,?_⟩
    ·simp only[execOp]
     go_simp
    have HF3:Hid (Full (W.setCell ⟨g,j+1,none⟩ (.int .i64 (4*(tn:Int)+4))) g (((fill xs j n 0).set j (pk s 7 0 0 false false)).set (j+1) (4*(tn:Int)+4))):=full_set hFW (j+1) (4*(tn:Int)+4)
    have h2:W.grownBy (W.setCell ⟨g,j+1,none⟩ (.int .i64 (4*(tn:Int)+4))) (some g):=gset' W g (j+1) (.int .i64 (4*(tn:Int)+4))
    have HG3:Hid (w.grownBy (W.setCell ⟨g,j+1,none⟩ (.int .i64 (4*(tn:Int)+4))) (some g)):=grown_two (grown_two HG1.out (grown_bel' hB (some g))) h2
    have HP3:Hid ((W.setCell ⟨g,j+1,none⟩ (.int .i64 (4*(tn:Int)+4))).heap[pB]? = some (pdb ⟨s,f,c,h,p,m,.slice ua n uc,(j:Int)⟩)):=(h2.block pB (by have:=lt_of_block HP1.out;have:=hB.size;omega) (fun e=>hpg (by injection e))).trans ((hB.block _ (lt_of_block HP1.out)).trans HP1.out)
    generalize W.setCell ⟨g,j+1,none⟩ (.int .i64 (4*(tn:Int)+4))=V3 at *
    clear h2 hc hfz ev o1 o2 o3 e1 e2 e3 sz x5 x6 hB ho hF hFW p0 p1 p2 p3 p4 p5 p6 p7 pz HF1 HG1 HP1 HF2 HG2 HP2 HL1
    subst hA0
    simp[ovr,DCc,List.range,List.range.loop]
    generalize u=uC at *
    clear W
    have e:=nt_set (xs:=xs) (k:=j) (n:=n) (hd:=pk s 7 0 0 false false) (x:=4*(tn:Int)+4) (by omega) (by omega)
    have HE:Hid _:=e
    clear e
    go_wp2
    go_end0
    exact⟨rfl,by rw[←HE.out];exact HF3.out,HG3.out⟩
end Go.Proofs.YtemlagfaaibenaaGreat.hp
