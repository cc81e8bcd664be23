/- Chapter 7 as the program has it: how two -/
import Derived.Test.YtocidankimefpaaGreatDoorM7
import Derived.BigRegion
import Derived.Sort.OwnSortedInts
set_option linter.unusedSimpArgs false
set_option linter.unusedVariables false
set_option maxRecDepth 100000
namespace Go.Proofs.YtocidankimefpaaGreatDoor.gr
open Go.RowKit rows heads region
theorem DT (b k:Nat) (w:World) {x:Int} (h:w.cell? ⟨b,k,none⟩=some (.int .i64 x)):(Instr.loadAt 2 (.pointer (some ⟨b,k,none⟩))).run Tryz.prog w = .ok (.int .i64 x) w:=by
 go_simp
theorem Hr (b:Nat) (w:World):(Instr.fieldAt 60 (.pointer (some ⟨b,0,none⟩)) 3).run Tryz.prog w = .ok (.pointer (some ⟨b,3,none⟩)) w:=by
 go_simp
theorem Hs (b:Nat) (w:World):(Instr.fieldAt 60 (.pointer (some ⟨b,0,none⟩)) 0).run Tryz.prog w = .ok (.pointer (some ⟨b,0,none⟩)) w:=by
 go_simp
theorem Hu (u v:Int) (w:World):(Instr.buildSlice 94 2 #[(0,.int .i64 u),(1,.int .i64 v)]).run Tryz.prog w = .ok (.slice (some ⟨w.heap.size,0,none⟩) 2 2) (w.alloc (.cells #[.int .i64 u,.int .i64 v] 3)):=by
 go_simp
def uX (W W':World):Prop:=Below W.heap.size W W'∧W.drawn≤W'.drawn
theorem dj (W:World):uX W W:=⟨Below.refl _ _,Nat.le_refl _⟩
theorem xk (a b c:World) (h:uX a b) (k:uX b c):uX a c:=⟨h.1.trans (k.1.mono h.1.size),Nat.le_trans h.2 k.2⟩
def Jo (k:Nat):Nat:=18+k
def DC (s:Nat):Bool:=s==5 || (decide (18≤s)&&decide (s≤29))
def FC (B1 B2:Nat) (xh yh xi yi:Int) (k:Nat) (t:Value) (w:World):Prop:=
 match k with
 |0=>t = .pointer (some ⟨B1,3,none⟩)
 |1=>t = .int .i64 xh
 |2=>t = .pointer (some ⟨B2,3,none⟩)
 |3=>t = .int .i64 yh
 |4=>t = .int .i64 (fj xh yh)
 |5=>t = .pointer (some ⟨B1,0,none⟩)
 |6=>t = .int .i64 xi
 |7=>t = .pointer (some ⟨B2,0,none⟩)
 |8=>t = .int .i64 yi
 |9=>t = .int .i64 (fj xi yi)
 |10=>∃b,t = .slice (some ⟨b,0,none⟩) 2 2∧w.heap[b]? = some (.cells #[.int .i64 (fj xh yh),.int .i64 (fj xi yi)] 3 (0,0))
 |11=>t = .int .i64 (orI (fj xh yh) (fj xi yi))
 |_=>False
theorem J7 {B1 B2:Nat} {xh yh xi yi:Int} (k:Nat) (t:Value) (W W':World) (hb:uX W W') (h:FC B1 B2 xh yh xi yi k t W):FC B1 B2 xh yh xi yi k t W':=by
 match k,h with
 |0,h=>exact h
 |1,h=>exact h
 |2,h=>exact h
 |3,h=>exact h
 |4,h=>exact h
 |5,h=>exact h
 |6,h=>exact h
 |7,h=>exact h
 |8,h=>exact h
 |9,h=>exact h
 |10,⟨b,h1,h2⟩=>exact⟨b,h1,(hb.1.block b (lt_of_block h2)).trans h2⟩
 |11,h=>exact h
 |_+12,h=>exact h.elim
set_option maxHeartbeats 4000000 in
theorem J8 {id:Nat} {ops:Array Oper} {a0:Act} {Q:Exit→Act→World→Prop} {w:World} {B1 B2:Nat} {xh yh xi yi:Int} (hg:∀o ∈ ops,o.guard=none) (hacyc:∀(k:Nat) (o:Oper),ops[k]? = some o→∀e ∈ o.after,e.on<k) (hn:ops.size=13)
    (h0:Has ops 0 (some 18) (.fieldAddr 60 (.tmp 6) 3) [])
    (h1:Has ops 1 (some 19) (.load 2 (.tmp 18)) [0])
    (h2:Has ops 2 (some 20) (.fieldAddr 60 (.tmp 7) 3) [])
    (h3:Has ops 3 (some 21) (.load 2 (.tmp 20)) [2])
    (h4:Has ops 4 (some 22) (.call { callee:=.value (.func 103),args:=#[.tmp 19,.tmp 21],argTypes:=#[2,2] }) [1,3])
    (h5:Has ops 5 (some 23) (.fieldAddr 60 (.tmp 6) 0) [])
    (h6:Has ops 6 (some 24) (.load 2 (.tmp 23)) [5])
    (h7:Has ops 7 (some 25) (.fieldAddr 60 (.tmp 7) 0) [])
    (h8:Has ops 8 (some 26) (.load 2 (.tmp 25)) [7])
    (h9:Has ops 9 (some 27) (.call { callee:=.value (.func 103),args:=#[.tmp 24,.tmp 26],argTypes:=#[2,2] }) [6,8])
    (h10:Has ops 10 (some 28) (.buildSlice 94 2 #[(0,.tmp 22),(1,.tmp 27)]) [4,9])
    (h11:Has ops 11 (some 29) (.call { callee:=.value (.func 102),args:=#[.tmp 28],argTypes:=#[94] }) [10])
    (h12:Has ops 12 (some 5) (.assign (.tmp 29)) [0,1,2,3,4,5,6,7,8,9,10,11])
    (sz:29<a0.tmps.size) (e6:a0.tmps.getD 6 undef = .pointer (some ⟨B1,0,none⟩)) (e7:a0.tmps.getD 7 undef = .pointer (some ⟨B2,0,none⟩))
    (l1:B1<w.heap.size) (l2:B2<w.heap.size) (n1:w.cell? ⟨B1,3,none⟩=some (.int .i64 xh)) (n2:w.cell? ⟨B2,3,none⟩=some (.int .i64 yh)) (n3:w.cell? ⟨B1,0,none⟩=some (.int .i64 xi)) (n4:w.cell? ⟨B2,0,none⟩=some (.int .i64 yi))
    (fin:∀u w',u 5 = .int .i64 (orI (fj xh yh) (fj xi yi))→uX w w'→Q .normal (ovr DC a0 u) w') :
    (Code.region id ops true).wp Tryz.prog Q a0 w:=by
 refine tK (by kernel_rfl) DC uX xk ⟨(Below.refl _ _).drew,Nat.le_succ _⟩ hg hacyc 12 hn Jo (fun k hk j hj e=>by unfold Jo at e;omega) (FC B1 B2 xh yh xi yi) J7 ?_ ?_ ?_
 ·intro o ho j hj;obtain⟨_,_,dep⟩:=cY h12 ho;exact dep j (by rcases (show j=0∨j=1∨j=2∨j=3∨j=4∨j=5∨j=6∨j=7∨j=8∨j=9∨j=10∨j=11 by omega) with rfl|rfl|rfl|rfl|rfl|rfl|rfl|rfl|rfl|rfl|rfl|rfl<;>decide)
 ·intro k o u W hk ho hB hF;have ev:∀s,DC s=true→s<30→(ovr DC a0 u).eval (.tmp s)=u s:=fun s h1 h2=>aS h1 (by omega)
  have x6:=(ah (D:=DC) (a0:=a0) (u:=u) (s:=6) rfl (by omega)).trans e6;have x7:=(ah (D:=DC) (a0:=a0) (u:=u) (s:=7) rfl (by omega)).trans e7;have m1:=(hB.1.cell (p:=⟨B1,3,none⟩) l1).trans n1;have m2:=(hB.1.cell (p:=⟨B2,3,none⟩) l2).trans n2;have m3:=(hB.1.cell (p:=⟨B1,0,none⟩) l1).trans n3;have m4:=(hB.1.cell (p:=⟨B2,0,none⟩) l2).trans n4;rcases (show k=0∨k=1∨k=2∨k=3∨k=4∨k=5∨k=6∨k=7∨k=8∨k=9∨k=10∨k=11 by omega) with rfl|rfl|rfl|rfl|rfl|rfl|rfl|rfl|rfl|rfl|rfl|rfl
  ·obtain⟨hd,op,dep⟩:=cY h0 ho;exact aA (w':=W) (by simp[execOp,op,x6,Hr,Result.andThen]) ⟨_,aF hd rfl u _,dj _,rfl⟩
  ·obtain⟨hd,op,dep⟩:=cY h1 ho;have y:=(ev 18 rfl (by omega)).trans (hF 0 (by omega) (dep 0 (by simp)));exact aA (w':=W) (by simp[execOp,op,y,DT B1 3 W m1,Result.andThen]) ⟨_,aF hd rfl u _,dj _,rfl⟩
  ·obtain⟨hd,op,dep⟩:=cY h2 ho;exact aA (w':=W) (by simp[execOp,op,x7,Hr,Result.andThen]) ⟨_,aF hd rfl u _,dj _,rfl⟩
  ·obtain⟨hd,op,dep⟩:=cY h3 ho;have y:=(ev 20 rfl (by omega)).trans (hF 2 (by omega) (dep 2 (by simp)));exact aA (w':=W) (by simp[execOp,op,y,DT B2 3 W m2,Result.andThen]) ⟨_,aF hd rfl u _,dj _,rfl⟩
  ·obtain⟨hd,op,dep⟩:=cY h4 ho;have y1:=(ev 19 rfl (by omega)).trans (hF 1 (by omega) (dep 1 (by simp)));have y2:=(ev 21 rfl (by omega)).trans (hF 3 (by omega) (dep 3 (by simp)));refine iG (f:=103) (args:=#[.int .i64 xh,.int .i64 yh]) (by simp only[execOp,op];go_simp;exact⟨(af _ _).symm.trans y1,(af _ _).symm.trans y2⟩) ?_;refine (gS xh yh W).mono ?_;rintro e w' ⟨rfl,rfl⟩;exact⟨_,rfl,_,aF hd rfl u _,dj _,rfl⟩
  ·obtain⟨hd,op,dep⟩:=cY h5 ho;exact aA (w':=W) (by simp[execOp,op,x6,Hs,Result.andThen]) ⟨_,aF hd rfl u _,dj _,rfl⟩
  ·obtain⟨hd,op,dep⟩:=cY h6 ho;have y:=(ev 23 rfl (by omega)).trans (hF 5 (by omega) (dep 5 (by simp)));exact aA (w':=W) (by simp[execOp,op,y,DT B1 0 W m3,Result.andThen]) ⟨_,aF hd rfl u _,dj _,rfl⟩
  ·obtain⟨hd,op,dep⟩:=cY h7 ho;exact aA (w':=W) (by simp[execOp,op,x7,Hs,Result.andThen]) ⟨_,aF hd rfl u _,dj _,rfl⟩
  ·obtain⟨hd,op,dep⟩:=cY h8 ho;have y:=(ev 25 rfl (by omega)).trans (hF 7 (by omega) (dep 7 (by simp)));exact aA (w':=W) (by simp[execOp,op,y,DT B2 0 W m4,Result.andThen]) ⟨_,aF hd rfl u _,dj _,rfl⟩
  ·obtain⟨hd,op,dep⟩:=cY h9 ho;have y1:=(ev 24 rfl (by omega)).trans (hF 6 (by omega) (dep 6 (by simp)));have y2:=(ev 26 rfl (by omega)).trans (hF 8 (by omega) (dep 8 (by simp)));refine iG (f:=103) (args:=#[.int .i64 xi,.int .i64 yi]) (by simp only[execOp,op];go_simp;exact⟨(af _ _).symm.trans y1,(af _ _).symm.trans y2⟩) ?_;refine (gS xi yi W).mono ?_;rintro e w' ⟨rfl,rfl⟩;exact⟨_,rfl,_,aF hd rfl u _,dj _,rfl⟩
  ·obtain⟨hd,op,dep⟩:=cY h10 ho;have y1:=(ev 22 rfl (by omega)).trans (hF 4 (by omega) (dep 4 (by simp)));have y2:=(ev 27 rfl (by omega)).trans (hF 9 (by omega) (dep 9 (by simp)));exact aA (by simp[execOp,op,y1,y2,Hu,Result.andThen]) ⟨_,aF hd rfl u _,⟨(Below.refl _ W).alloc (Nat.le_refl _) _,Nat.le_refl _⟩,W.heap.size,rfl,heap_alloc_new W _⟩
  ·obtain⟨hd,op,dep⟩:=cY h11 ho;obtain⟨b,y0,hb⟩:=hF 10 (by omega) (dep 10 (by simp));have y:=(ev 28 rfl (by omega)).trans y0;refine iG (f:=102) (args:=#[.slice (some ⟨b,0,none⟩) 2 2]) (by simp only[execOp,op];go_simp;exact (af _ _).symm.trans y) ?_;refine (Gn (cell_of (cs:=[.int .i64 (fj xh yh),.int .i64 (fj xi yi)]) hb rfl) (cell_of (cs:=[.int .i64 (fj xh yh),.int .i64 (fj xi yi)]) hb rfl)).mono ?_;rintro e w' ⟨rfl,rfl⟩;exact⟨_,rfl,_,aF hd rfl u _,dj _,rfl⟩
 ·intro o u W ho hB hF;obtain⟨hd,op,dep⟩:=cY h12 ho;have ev:∀s,DC s=true→s<30→(ovr DC a0 u).eval (.tmp s)=u s:=fun s h1 h2=>aS h1 (by omega)
  have y:=(ev 29 rfl (by omega)).trans (hF 11 (by omega));exact aA (w':=W) (v:=.int .i64 (orI (fj xh yh) (fj xi yi))) (by simp[execOp,op,y]) ⟨_,aF hd rfl u _,fin _ W (by simp[upd]) hB⟩
def cfM (x y:MO):Int:=orI (fj x.hash y.hash) (fj x.id y.id)
set_option maxHeartbeats 8000000 in
theorem tC {W:World} {Pg:Nat} {a1:Option Addr} {c1:Nat} {ms:List MO} (hPg:Pg<W.heap.size) (hz:W.cell? ⟨Pg,0,none⟩=some (.slice a1 ms.length c1)) (hO:jC W (.slice a1 ms.length c1) ms) (hsl:Slices ms) {x y:Nat} (hx:x<ms.length) (hy:y<ms.length) :
    Calls Tryz.prog 101 #[.int .i64 (x:Int),.int .i64 (y:Int),.pointer (some ⟨Pg,0,none⟩)] W fun e w'=>e = .returned (.int .i64 (cfM (ms.getD x moD) (ms.getD y moD)))∧Below W.heap.size W w'∧W.drawn≤w'.drawn:=by
 obtain⟨ao,co,eo,hlc,hcm,_,hc⟩:=hO;injection eo with e1 e2 e3
 subst e1 e3;obtain⟨b,off,rfl,hb,hcc⟩:=hc (by omega);obtain⟨x0,x1,x2,x3,x4⟩:=hcc x hx;obtain⟨y0,y1,y2,y3,y4⟩:=hcc y hy;obtain⟨xa,xn,xc,hxv⟩:=hsl _ (cZ hx);obtain⟨ya,yn,yc,hyv⟩:=hsl _ (cZ hy);clear hc hcc hsl e2 hlc hcm;generalize ms.getD x moD=mx at *;generalize ms.getD y moD=my at *;obtain⟨xi,xcl,xf,xh,xv,xs⟩:=mx;obtain⟨yi,ycl,yf,yh,yv,ys⟩:=my;simp only at x0 x1 x2 x3 x4 y0 y1 y2 y3 y4 hxv hyv;subst hxv hyv;have ER:Hid (cfM ⟨xi,xcl,xf,xh,.slice xa xn xc,xs⟩ ⟨yi,ycl,yf,yh,.slice ya yn yc,ys⟩=orI (fj xh yh) (fj xi yi)):=rfl
 have HW:∀V:World,Below W.heap.size W V→V.cell? ⟨Pg,0,none⟩=some (.slice (some ⟨b,off,none⟩) ms.length c1)∧(V.cell? ⟨b,off+x*5,none⟩=some (.int .i64 xi)∧V.cell? ⟨b,off+x*5+1,none⟩=some (.int .i64 xcl)∧V.cell? ⟨b,off+x*5+2,none⟩=some (.int .i64 xf)∧V.cell? ⟨b,off+x*5+3,none⟩=some (.int .i64 xh)∧V.cell? ⟨b,off+x*5+4,none⟩=some (.slice xa xn xc))∧(V.cell? ⟨b,off+y*5,none⟩=some (.int .i64 yi)∧V.cell? ⟨b,off+y*5+1,none⟩=some (.int .i64 ycl)∧V.cell? ⟨b,off+y*5+2,none⟩=some (.int .i64 yf)∧V.cell? ⟨b,off+y*5+3,none⟩=some (.int .i64 yh)∧V.cell? ⟨b,off+y*5+4,none⟩=some (.slice ya yn yc)):=fun V hV=>
  ⟨(hV.cell (p:=⟨Pg,0,none⟩) hPg).trans hz,⟨(hV.cell (p:=⟨b,off+x*5,none⟩) hb).trans x0,(hV.cell (p:=⟨b,off+x*5+1,none⟩) hb).trans x1,(hV.cell (p:=⟨b,off+x*5+2,none⟩) hb).trans x2,(hV.cell (p:=⟨b,off+x*5+3,none⟩) hb).trans x3,(hV.cell (p:=⟨b,off+x*5+4,none⟩) hb).trans x4⟩,(hV.cell (p:=⟨b,off+y*5,none⟩) hb).trans y0,(hV.cell (p:=⟨b,off+y*5+1,none⟩) hb).trans y1,(hV.cell (p:=⟨b,off+y*5+2,none⟩) hb).trans y2,(hV.cell (p:=⟨b,off+y*5+3,none⟩) hb).trans y3,(hV.cell (p:=⟨b,off+y*5+4,none⟩) hb).trans y4⟩
 obtain⟨p0,⟨q00,q01,q02,q03,q04⟩,r00,r01,r02,r03,r04⟩:=HW (W.alloc (.cells #[.int .i64 0,.int .i64 0,.int .i64 0,.int .i64 0,.slice none 0 0] 60)) ((Below.refl _ _).alloc (Nat.le_refl _) _);obtain⟨p1,⟨q10,q11,q12,q13,q14⟩,r10,r11,r12,r13,r14⟩:=HW ((W.alloc (.cells #[.int .i64 0,.int .i64 0,.int .i64 0,.int .i64 0,.slice none 0 0] 60)).alloc (.cells #[.int .i64 0,.int .i64 0,.int .i64 0,.int .i64 0,.slice none 0 0] 60)) (((Below.refl _ _).alloc (Nat.le_refl _) _).alloc (by simp) _);obtain⟨p2,⟨q20,q21,q22,q23,q24⟩,r20,r21,r22,r23,r24⟩:=HW (W.alloc (.cells #[.int .i64 xi,.int .i64 xcl,.int .i64 xf,.int .i64 xh,.slice xa xn xc] 60)) ((Below.refl _ _).alloc (Nat.le_refl _) _);obtain⟨p3,⟨q30,q31,q32,q33,q34⟩,r30,r31,r32,r33,r34⟩:=HW ((W.alloc (.cells #[.int .i64 xi,.int .i64 xcl,.int .i64 xf,.int .i64 xh,.slice xa xn xc] 60)).alloc (.cells #[.int .i64 0,.int .i64 0,.int .i64 0,.int .i64 0,.slice none 0 0] 60)) (((Below.refl _ _).alloc (Nat.le_refl _) _).alloc (by simp) _);obtain⟨p4,⟨q40,q41,q42,q43,q44⟩,r40,r41,r42,r43,r44⟩:=HW ((W.alloc (.cells #[.int .i64 0,.int .i64 0,.int .i64 0,.int .i64 0,.slice none 0 0] 60)).alloc (.cells #[.int .i64 xi,.int .i64 xcl,.int .i64 xf,.int .i64 xh,.slice xa xn xc] 60)) (((Below.refl _ _).alloc (Nat.le_refl _) _).alloc (by simp) _);clear HW;go_enter Tryz.func101,Tryz.ntmps101;go_wp2_with fail;go_cut [6,7] from 8 to 17 (fun u v wx=>∃B1 B2:Nat,u = .pointer (some ⟨B1,0,none⟩)∧v = .pointer (some ⟨B2,0,none⟩)∧Hid (fh wx B1 60 (.int .i64 xi) (.int .i64 xcl) (.int .i64 xf) (.int .i64 xh) (.slice xa xn xc))∧Hid (fh wx B2 60 (.int .i64 yi) (.int .i64 ycl) (.int .i64 yf) (.int .i64 yh) (.slice ya yn yc))∧Hid (Below W.heap.size W wx)∧Hid (W.drawn≤wx.drawn))
 case first=>
  go_region;all_goals go_wp2
  all_goals go_meet
  ·exact⟨_,_,rfl,rfl,jP (lj rfl),lj (by simp),(((Below.refl _ _).alloc (Nat.le_refl _) _).alloc (by simp) _).drew,Nat.le_succ _⟩
  ·exact⟨_,_,rfl,rfl,lj (by simp),jP (lj rfl),(((Below.refl _ _).alloc (Nat.le_refl _) _).alloc (by simp) _).drew,Nat.le_succ _⟩
 obtain⟨B1,B2,rfl,rfl,HF1,HF2,HB,HD⟩:=hcut;obtain⟨V,hV⟩:∃V,V=wc:=⟨_,rfl⟩
 subst hV;obtain⟨f0,f1,f2,f3,f4,_⟩:=ak HF1.out;obtain⟨g0,g1,g2,g3,g4,_⟩:=ak HF2.out;have l1:=lt_of_block HF1.out;have l2:=lt_of_block HF2.out;clear x0 x1 x2 x3 x4 y0 y1 y2 y3 y4 hz p0 q00 q01 q02 q03 q04 r00 r01 r02 r03 r04 p1 q10 q11 q12 q13 q14 r10 r11 r12 r13 r14 p2 q20 q21 q22 q23 q24 r20 r21 r22 r23 r24 p3 q30 q31 q32 q33 q34 r30 r31 r32 r33 r34 p4 q40 q41 q42 q43 q44 r40 r41 r42 r43 r44;go_wp2_with fail;go_cut [5] from 18 to 29 (fun v wx=>v = .int .i64 (orI (fj xh yh) (fj xi yi))∧Hid (uX V wx))
 case first=>
  refine J8 (B1:=B1) (B2:=B2) (xh:=xh) (yh:=yh) (xi:=xi) (yi:=yi) (by simp) ?_ rfl ⟨_,rfl,rfl,rfl,by simp[Region.binds]⟩ ⟨_,rfl,rfl,rfl,by simp[Region.binds]⟩ ⟨_,rfl,rfl,rfl,by simp[Region.binds]⟩ ⟨_,rfl,rfl,rfl,by simp[Region.binds]⟩ ⟨_,rfl,rfl,rfl,by simp[Region.binds]⟩ ⟨_,rfl,rfl,rfl,by simp[Region.binds]⟩ ⟨_,rfl,rfl,rfl,by simp[Region.binds]⟩ ⟨_,rfl,rfl,rfl,by simp[Region.binds]⟩ ⟨_,rfl,rfl,rfl,by simp[Region.binds]⟩ ⟨_,rfl,rfl,rfl,by simp[Region.binds]⟩ ⟨_,rfl,rfl,rfl,by simp[Region.binds]⟩ ⟨_,rfl,rfl,rfl,by simp[Region.binds]⟩ ⟨_,rfl,rfl,rfl,by simp[Region.binds]⟩ (by simp) rfl rfl l1 l2 f3 g3 f0 g0 ?_
  ·intro k o ho e he;have hk:k<13:=(Array.getElem?_eq_some_iff.1 ho).1;rcases (show k=0∨k=1∨k=2∨k=3∨k=4∨k=5∨k=6∨k=7∨k=8∨k=9∨k=10∨k=11∨k=12 by omega) with rfl|rfl|rfl|rfl|rfl|rfl|rfl|rfl|rfl|rfl|rfl|rfl|rfl
   all_goals
    injection ho with ho
    subst ho;simp at he;try omega
   all_goals
    first
     |(subst he;decide)
     |(rcases he with rfl|rfl<;>decide)
     |(rcases he with rfl|rfl|rfl<;>decide)
     |(rcases he with rfl|rfl|rfl|rfl<;>decide)
     |(rcases he with rfl|rfl|rfl|rfl|rfl<;>decide)
     |(rcases he with rfl|rfl|rfl|rfl|rfl|rfl<;>decide)
     |(rcases he with rfl|rfl|rfl|rfl|rfl|rfl|rfl<;>decide)
     |(rcases he with rfl|rfl|rfl|rfl|rfl|rfl|rfl|rfl<;>decide)
     |(rcases he with rfl|rfl|rfl|rfl|rfl|rfl|rfl|rfl|rfl<;>decide)
     |(rcases he with rfl|rfl|rfl|rfl|rfl|rfl|rfl|rfl|rfl|rfl<;>decide)
     |(rcases he with rfl|rfl|rfl|rfl|rfl|rfl|rfl|rfl|rfl|rfl|rfl<;>decide)
     |(rcases he with rfl|rfl|rfl|rfl|rfl|rfl|rfl|rfl|rfl|rfl|rfl|rfl<;>decide)
     |(rcases he with rfl|rfl|rfl|rfl|rfl|rfl|rfl|rfl|rfl|rfl|rfl|rfl|rfl<;>decide)
     |(rcases he with rfl|rfl|rfl|rfl|rfl|rfl|rfl|rfl|rfl|rfl|rfl|rfl|rfl|rfl<;>decide)
     |(rcases he with rfl|rfl|rfl|rfl|rfl|rfl|rfl|rfl|rfl|rfl|rfl|rfl|rfl|rfl|rfl<;>decide)
     |(rcases he with rfl|rfl|rfl|rfl|rfl|rfl|rfl|rfl|rfl|rfl|rfl|rfl|rfl|rfl|rfl|rfl<;>decide)
     |(rcases he with rfl|rfl|rfl|rfl|rfl|rfl|rfl|rfl|rfl|rfl|rfl|rfl|rfl|rfl|rfl|rfl|rfl<;>decide)
  ·rintro u w' hu hgr;rename_i J K' HJ HK
   exact HK _ _ (Met.intro (HJ _ _ ⟨u 5,u 18,u 19,u 20,u 21,u 22,u 23,u 24,u 25,u 26,u 27,u 28,u 29,⟨hu,hgr⟩,rfl⟩))
 obtain⟨rfl,HGR⟩:=hcut;have HFB:Hid _:=HB.out.trans (HGR.out.1.mono HB.out.size);have HFD:Hid _:=Nat.le_trans HD.out HGR.out.2;clear HGR HB HD HF1 HF2 l1 l2 f0 f1 f2 f3 f4 g0 g1 g2 g3 g4;go_wp2;go_ret;exact⟨by rw[ER.out];rfl,HFB.out,HFD.out⟩
end Go.Proofs.YtocidankimefpaaGreatDoor.gr
namespace Go.Proofs.YtocidankimefpaaGreatDoor.gr
open Go.RowKit rows heads Go.Sort Go.Shelf
theorem G4 (x y:MO):cfM x y<0↔(x.hash<y.hash∨(x.hash=y.hash∧x.id<y.id)):=by
 unfold cfM
 have hc:∀u v:Int,(fj u v = -1∧u<v)∨(fj u v=1∧v<u)∨(fj u v=0∧u=v):=fun u v=>by
  unfold fj;split
  ·exact .inl ⟨rfl,by assumption⟩
  ·split
   ·exact .inr (.inl ⟨rfl,by assumption⟩)
   ·exact .inr (.inr ⟨rfl,by omega⟩)
 rcases hc x.hash y.hash with ⟨e,h⟩|⟨e,h⟩|⟨e,h⟩
 ·rw[e,show orI (-1) (fj x.id y.id) = -1 from rfl];omega
 ·rw[e,show orI 1 (fj x.id y.id)=1 from rfl];omega
 ·rw[e,show orI 0 (fj x.id y.id)=fj x.id y.id from rfl];rcases hc x.id y.id with ⟨e2,h2⟩|⟨e2,h2⟩|⟨e2,h2⟩<;>rw[e2]<;>omega
theorem G5 {W w':World} (h:Below W.heap.size W w') (hd:W.drawn≤w'.drawn):∃q os,w'=grow (W.drewN q) os:=by
 refine⟨w'.drawn-W.drawn,w'.heap.extract W.heap.size w'.heap.size,?_⟩
 obtain⟨h1,h2,h3,h4,h5⟩:=h;cases w' with
 |mk heap tape drawn os output=>
  cases W with
  |mk heap0 tape0 drawn0 os0 output0=>
   simp only at h1 h2 h3 h4 h5 hd;subst h1 h2 h3;unfold grow World.drewN;simp only[World.mk.injEq,true_and,and_true];refine⟨?_,by omega⟩
   apply Array.ext_getElem?
   intro k;rw[Array.getElem?_append];split
   ·rename_i hk;exact h5 k hk
   ·rename_i hk
    rw[Array.getElem?_extract];split
    ·congr 1;omega
    ·rw[Array.getElem?_eq_none (by omega)]
def cfP (ms:List MO) (x y:Fin ms.length):Int:=cfM (ms.getD x.val moD) (ms.getD y.val moD)
abbrev GW (n:Nat) (x:Fin n):Value:=.int .i64 ((x.val:Nat):Int)
theorem uY {n:Nat} [Inhabited (Fin n)] (off:Nat) (d:Array (Fin n)) (c:Array Value):putCells (GW n) off d c=putCells (Value.int .i64) off (d.map fun x=>((x.val:Nat):Int)) c:=by
 unfold putCells;apply Array.ext_getElem?
 intro k;simp only[Array.getElem?_mapIdx,Array.size_map];cases hc:c[k]? with
 |none=>rfl
 |some x=>
  simp only[Option.map_some];by_cases hk:off≤k∧k<off+d.size
  ·rw[if_pos hk,if_pos hk];have hlt:k-off<d.size:=by omega
   rw[getElem!_pos d (k-off) hlt,getElem!_pos (d.map _) (k-off) (by simpa using hlt),Array.getElem_map]
  ·rw[if_neg hk,if_neg hk]
theorem sw {n:Nat} [Inhabited (Fin n)] (w:World) (blk off:Nat) (d:Array (Fin n)):putRow (GW n) w blk off d=putRow (Value.int .i64) w blk off (d.map fun x=>((x.val:Nat):Int)):=by
 unfold putRow;congr 1
 funext c
 exact uY off d c
theorem ltP (ms:List MO) (x y:Fin ms.length):ltOf (cfP ms) x y=true↔((ms.getD x.val moD).hash<(ms.getD y.val moD).hash∨((ms.getD x.val moD).hash=(ms.getD y.val moD).hash∧(ms.getD x.val moD).id<(ms.getD y.val moD).id)):=by
 unfold ltOf cfP;rw[decide_eq_true_eq,G4]
theorem xo (ms:List MO) (x y:Fin ms.length):ltOf (cfP ms) x y=false↔¬((ms.getD x.val moD).hash<(ms.getD y.val moD).hash∨((ms.getD x.val moD).hash=(ms.getD y.val moD).hash∧(ms.getD x.val moD).id<(ms.getD y.val moD).id)):=by
 rw[←ltP ms x y,Bool.not_eq_true]
theorem IZ (ms:List MO):SWO (ltOf (cfP ms)):=by
 refine⟨fun x => ?_,fun x y z h1 h2 => ?_,fun x y z h1 h2 => ?_⟩
 ·rw[xo];omega
 ·rw[ltP]at *; omega
 ·rw[xo]at *; omega
set_option maxHeartbeats 2000000 in
theorem rK {W:World} {base blk cap Pg c1:Nat} {a1:Option Addr} {ms:List MO} (hr:DG ms) (hsl:Slices ms) (pf:List (Fin ms.length)) (hnd:pf.Nodup) (hpos:0<ms.length) (hlen:pf.length≤1048576)
    (hown:mZ 3 W base (.slice (some ⟨blk,0,none⟩) pf.length cap) (pf.map fun x=>((x.val:Nat):Int)))
    (HV:∀V,Ch [blk] W V→Pg<V.heap.size∧V.cell? ⟨Pg,0,none⟩=some (.slice a1 ms.length c1)∧jC V (.slice a1 ms.length c1) ms) :
    Calls Tryz.prog 100 #[.slice (some ⟨blk,0,none⟩) pf.length cap,.func (.func 101) #[] #[.pointer (some ⟨Pg,0,none⟩)]] W fun e w'=>e = .returned (.tuple #[])∧∃qs:List (Fin ms.length),mZ 3 w' base (.slice (some ⟨blk,0,none⟩) pf.length cap) (qs.map fun x=>((x.val:Nat):Int))∧Ch [blk] W w'∧qs.Pairwise (fun x y=>ltOf (cfP ms) x y=true)∧(∀p,p ∈ qs↔p ∈ pf)∧qs.length=pf.length:=by
 haveI:Inhabited (Fin ms.length):=⟨⟨0,hpos⟩⟩
 obtain⟨h0,⟨h1,h2⟩|⟨g,cap',cur,h1,hg,hh,hle,hm,hs,ht⟩⟩:=hown
 ·cases h1
 injection h1 with e1 e2 e3
 injection e1 with e1
 injection e1 with e1
 subst e1 e3;rw[List.length_map,Nat.mul_one]at ht;have lK:=lt_of_block hh
 have hH:Holds (GW ms.length) W blk 0 pf.toArray:=fun j hj=>by
  have:=holds_of_blockI (ss:=pf.map fun x=>((x.val:Nat):Int)) hh (by rw[List.length_map];exact ht) j (by simpa using hj)
  have hj':j<pf.length:=by simpa using hj
  refine⟨this.1.trans ?_,this.2⟩
  rw[getElem!_pos _ j (by simpa using hj'),getElem!_pos pf.toArray j hj];simp
 have swc:∀m (dk:Array (Fin ms.length)) os,Ch [blk] W (sortWorld (GW ms.length) W blk 0 m dk os):=fun m dk os=>by
  unfold sortWorld;rw[sw];have:=grownBy_sortedI (w:=W) (g:=blk) (n:=m) (os:=os) (dk.map fun x=>((x.val:Nat):Int))
  exact⟨this.os,this.tape,this.output,this.size,fun k hk hn=>this.block k hk (fun e=>hn (by injection e with e;simp[e]))⟩
 have hcmp:CmpLays1 Tryz.prog 101 #[.pointer (some ⟨Pg,0,none⟩)] (GW ms.length) (cfP ms) blk 0 pf.toArray.size W:=fun m os dk _ x y=>by
  obtain⟨v1,v2,v3⟩:=HV _ (swc m dk os);refine (tC v1 v2 v3 hsl x.isLt y.isLt).mono ?_;rintro e w' ⟨rfl,b,d⟩;exact⟨rfl,G5 b d⟩
 have eg:∀args w,(callFunc 101 args).run Tryz.prog w = .ok (.enter 101 args) w:=fun args w=>by go_simp
 have hT:∀x y:Fin ms.length,ltOf (cfP ms) x y=false→ltOf (cfP ms) y x=false→x=y:=fun x y h1 h2=>by
  rw[xo]at h1 h2;apply Fin.ext
  rcases Nat.lt_trichotomy x.val y.val with h|h|h
  ·have:=hr _ _ h y.isLt;omega
  ·exact h
  ·have:=hr _ _ h x.isLt;omega
 have hcon:=Any.slices_SortFunc_total Iq (GW ms.length) (fun _=>rfl) (cfP ms) (IZ ms) 101 #[.pointer (some ⟨Pg,0,none⟩)] blk 0 cap pf.toArray W eg hcmp hH lK (by simp;omega) hT;refine Calls.mono hcon ?_;rintro e w' ⟨rfl,n,os,hw'⟩;subst hw';have hperm:=List.mergeSort_perm pf (fun x y => !(ltOf (cfP ms)) y x)
 have hsort:=List.pairwise_mergeSort (le:=fun x y => !(ltOf (cfP ms)) y x) (fun a b c h1 h2=>by
     simp only[Bool.not_eq_true']at h1 h2 ⊢;exact (IZ ms).ntrans c b a h2 h1) (fun a b=>by
     simp only[Bool.or_eq_true,Bool.not_eq_true'];cases h:ltOf (cfP ms) b a
     ·exact .inl rfl
     ·refine .inr ?_;cases h':ltOf (cfP ms) a b
      ·rfl
      ·have:=(IZ ms).trans a b a h' h
       rw[(IZ ms).irrefl]at this;cases this) pf
 refine⟨rfl,pf.mergeSort (fun x y => !(ltOf (cfP ms)) y x),?_,swc n _ os,?_,fun p=>hperm.mem_iff,hperm.length_eq⟩
 ·unfold sortWorld;rw[sw];have hl:((pf.mergeSort (fun x y => !(ltOf (cfP ms)) y x)).map fun x=>((x.val:Nat):Int)).length=(pf.map fun x=>((x.val:Nat):Int)).length:=by simp[hperm.length_eq]
  have:=ownsRow_sortedI (w:=W) (base:=base) (g:=blk) (cap:=cap) (n:=n) (e:=3) (os:=os) (cur:=cur) hl hg hh (by simpa using hle) hm hs
  unfold mZ;rw[List.length_map]at this ⊢;rw[hperm.length_eq];simpa using this
 ·have hnd':(pf.mergeSort (fun x y => !(ltOf (cfP ms)) y x)).Nodup:=hperm.nodup_iff.2 hnd;refine List.Pairwise.imp₂ (R:=fun x y=>(!(ltOf (cfP ms)) y x)=true) (S:=fun x y=>x≠y) (fun a b h1 h2 => ?_) hsort hnd';simp only[Bool.not_eq_true']at h1;cases h':ltOf (cfP ms) a b
  ·exact absurd (hT a b h' h1) h2
  ·rfl
end Go.Proofs.YtocidankimefpaaGreatDoor.gr
namespace Go.Proofs.YtocidankimefpaaGreatDoor.gr
open Go.RowKit rows heads
theorem J9:(Tryz.prog.info? 3).map (fun i=>(i.zero,i.size,i.bytes))=some (some (.int .i64 0),1,8):=by kernel_rfl
def pls (G:Gr) (is:List Bool) (k:Nat):List Nat:=(List.range k).filter (gB G is)
abbrev rL (ps:List Nat):List Int:=ps.map fun p=>((p:Nat):Int)
theorem G6 {G:Gr} {is:List Bool} {k:Nat} (h:gB G is k=true):pls G is (k+1)=pls G is k++[k]:=by
 unfold pls;rw[List.range_succ,List.filter_append];simp[h]
theorem Hv {G:Gr} {is:List Bool} {k:Nat} (h:gB G is k=false):pls G is (k+1)=pls G is k:=by
 unfold pls;rw[List.range_succ,List.filter_append];simp[h]
theorem BL (G:Gr) (is:List Bool) (k:Nat):(pls G is k).length≤k:=by
 unfold pls;exact Nat.le_trans (List.length_filter_le _ _) (by simp)
theorem xq {G:Gr} {is:List Bool} {k p:Nat}:p ∈ pls G is k↔p<k∧gB G is p=true:=by
 unfold pls;rw[List.mem_filter,List.mem_range]
theorem BM (G:Gr) (is:List Bool) (k:Nat):(pls G is k).Nodup:=by
 unfold pls;exact List.Pairwise.filter _ List.nodup_range
theorem Fl {n:Nat}:∀(ps:List Nat),(∀p ∈ ps,p<n)→∃pf:List (Fin n),pf.map Fin.val=ps
 | [],_=>⟨[],rfl⟩
 |p :: ps,h=>by
  obtain⟨pf,e⟩:=Fl ps (fun q hq=>h q (by simp[hq]));exact⟨⟨p,h p (by simp)⟩ :: pf,by simp[e]⟩
theorem Ja {G:Gr} {is:List Bool} {p:Nat} (h:is.getD p false=false):gB G is p=false:=by unfold gB;rw[h];rfl
theorem Hw {G:Gr} {is:List Bool} {p:Nat} (h:¬(G.objs.getD p obD).fmt=2):gB G is p=false:=by
 unfold gB;have:((G.objs.getD p obD).fmt==2)=false:=by simpa using h
 rw[this];simp
theorem G7 {G:Gr} {is:List Bool} {p:Nat} (h:awt G.objs (G.objs.getD p obD)=none):gB G is p=false:=by
 unfold gB;rw[h];simp
theorem G8 {G:Gr} {is:List Bool} {p q:Nat} (h1:is.getD p false=true) (h2:(G.objs.getD p obD).fmt=2) (h:awt G.objs (G.objs.getD p obD)=some q):gB G is p = !is.getD q false:=by
 unfold gB;rw[h,h1,h2];simp
set_option maxHeartbeats 16000000 in
theorem lW {w:World} {o r m:Value} {ms:List MO} {G:Gr} (h:gy w o r m ms G) (ok:gOk G=true) :
    Calls Tryz.prog 52 #[gv o r m G.next G.seed] w fun e w'=>∃v ps,e = .returned v∧IsG G ps∧mZ 3 w' w.heap.size v (rL ps)∧Below w.heap.size w w':=by
 obtain⟨a1,n1,c1,a2,n2,c2,a3,n3,c3,e1,e2,e3⟩:=bq h;subst e1 e2 e3;obtain⟨ao,co,eo,_⟩:=h.2.1.1;injection eo with e1 e2 e3
 subst e1 e2 e3;have B:Below w.heap.size w (w.alloc (gb (.slice a1 ms.length c1) (.slice a2 n2 c2) (.slice a3 n3 c3) G.next G.seed)):=(Below.refl _ w).alloc (Nat.le_refl _) _;have T:=fX w 50 (.slice a1 ms.length c1) (.slice a2 n2 c2) (.slice a3 n3 c3) (.int .i64 G.next) (.int .i64 G.seed);have RP:=nE (lT h B) ok;have hlen:=jg h;have h200:=(gu ok).1;have hms:ms.length≤500:=by omega
 have HG:Hid _:=h;have HOK:Hid _:=ok;have HB:Hid _:=B;have HT:Hid _:=T;have HLEN:Hid _:=hlen;clear h B T ok hlen h200;go_enter Tryz.func52,Tryz.ntmps52;go_wp2_with fail;generalize hX:(w.alloc (gb (.slice a1 ms.length c1) (.slice a2 n2 c2) (.slice a3 n3 c3) G.next G.seed))=X at *;clear hX;refine RP.mono ?_;rintro e w1 ⟨Bi,is,rfl,hBi,hlo,hil,hrc,b1⟩;have B1:=HB.out.trans (b1.mono HB.out.size);have T1:=aJ HT.out b1;have N1:Below w1.heap.size w1 (w1.alloc (.cells #[] 3)):=(Below.refl _ _).alloc (Nat.le_refl _) _;have B2:=B1.trans (N1.mono B1.size);have T2:=aJ T1 N1;have hBi2:(w1.alloc (.cells #[] 3)).heap[Bi]? = some (.cells (is.map Value.bool).toArray 4 (0,0)):=(N1.block Bi (lt_of_block hBi)).trans hBi;have HO2:Hid (mZ 3 (w1.alloc (.cells #[] 3)) w.heap.size (.slice (some ⟨w1.heap.size,0,none⟩) 0 0) []):=zU B1.size;have hwB:w.heap.size<Bi:=by have:=lt_of_block HT.out;omega
 have hBE:Bi<w1.heap.size:=lt_of_block hBi;obtain⟨z0,z1,z2,z3,z4,_⟩:=ak T2;have HRC:Hid _:=hrc;have HBI:Hid _:=hBi2;have HB2:Hid _:=B2;have HT2:Hid _:=T2;obtain⟨i0,hi0,hz0,hz1,hz2⟩:=info_parts J9;have HI0:Hid _:=hi0;have HZ0:Hid _:=hz0;have HZ1:Hid _:=hz1;have HZ2:Hid _:=hz2;have szE:w1.heap.size<(w1.alloc (.cells #[] 3)).heap.size:=by simp
 clear RP HB HT b1 B1 T1 N1 B2 T2 hBi hBi2 hrc hlo hi0 hz0 hz1 hz2;go_wp2_with fail;generalize hX2:(w1.alloc (.cells #[] 3))=X2 at *;generalize hE:w1.heap.size=E at *;clear hX2 hE z0 z1 z2 z3 z4;go_loopw [4,14] (fun v p wr=>∃(k:Nat) (vv:Value),vv=v∧k≤ms.length∧p = .int .i64 k∧mZ 3 wr w.heap.size vv (rL (pls G is k))∧(∀b ∈ blk vv,b≠Bi∧w.heap.size<b)∧(∃g c,vv = .slice (some ⟨g,0,none⟩) (pls G is k).length c)∧wr.heap[Bi]? = some (.cells (is.map Value.bool).toArray 4 (0,0))∧fh wr w.heap.size 50 (.slice a1 ms.length c1) (.slice a2 n2 c2) (.slice a3 n3 c3) (.int .i64 G.next) (.int .i64 G.seed)∧Below w.heap.size w wr) (fun _ p _=>ms.length-(intOf p).toNat);case atStart=>exact⟨0,_,rfl,Nat.zero_le _,rfl,HO2.out,fun b hb=>(by simp[blk,Value.ownBlock]at hb;omega),⟨E,0,rfl⟩,HBI.out,HT2.out,HB2.out⟩
 case round=>
  clear HO2 HBI HT2 HB2;obtain⟨k,vv,rfl,hk,rfl,hO,hbk,⟨gg,gc,hvv⟩,hBi,hT,hB⟩:=hrel;subst hvv;have HO:Hid _:=hO;have HBK:Hid _:=hbk;have HBI:Hid _:=hBi;have HT:Hid _:=hT;have HB:Hid _:=hB;by_cases hlt:k<ms.length
  ·obtain⟨ao,co,eo,_,_,_,hco⟩:=cC HG.out.2.1.1 hB;injection eo with e1 e2 e3
   subst e1 e3;obtain⟨b1,off1,rfl,hb1,hcc1⟩:=hco (by omega);obtain⟨x0,x1,x2,x3,x4⟩:=hcc1 k hlt;have hmo:(ms.getD k moD).abs=G.objs.getD k obD:=fO HG.out k;have hsv:=aU (HG.out.2.1.2 _ (cZ hlt)) hB;obtain⟨sa,sc,hsl,_⟩:=id hsv;have hkG:k<G.objs.length:=by rw[←HLEN.out];exact hlt
   have HKEY:Hid ((ms.getD k moD).fmt=2→0<(ms.getD k moD).slots.length):=fun e=>by
    have h1:=(qd HOK.out hkG).1 (by rw[←hmo];exact e);rw[←hmo]at h1;exact h1
   have HAWT:Hid (awt G.objs (G.objs.getD k obD)=if (ms.getD k moD).fmt=2∧fG G.objs ((ms.getD k moD).slots.getD 0 bU)=true then some (cV G.objs ((ms.getD k moD).slots.getD 0 bU)) else none):=by
    show _=_
    rw[←hmo];rfl
   have HFM:Hid ((ms.getD k moD).fmt=(G.objs.getD k obD).fmt):=by show _=_;rw[←hmo];rfl
   have HAB:Hid (∀V,Below wr.heap.size wr V→(ms.getD k moD).fmt=2→Calls Tryz.prog 99 #[.slice (some ⟨b1,off1,none⟩) ms.length c1,ov (ms.getD k moD)] V fun e w'=>e = .returned (.int .i64 (awI G.objs (ms.getD k moD).slots))∧Below V.heap.size V w'):=fun V hV e=>mI (cC (cC HG.out.2.1.1 hB) hV) (fP HG.out.2.1) HG.out.1 (fY HOK.out) (by omega) _ (aU hsv hV) (HKEY.out e)
   have HCB:Hid (∀V,Below wr.heap.size wr V→∀p,p<ms.length→V.cell? ⟨Bi,p,none⟩=some (.bool (is.getD p false))):=fun V hV p hp=>cell_of ((hV.block Bi (lt_of_block hBi)).trans hBi) (by
    rw[List.getElem?_map,List.getD_eq_getElem?_getD,List.getElem?_eq_getElem (by omega)];rfl)
   have HKP:Hid (∀V,Below wr.heap.size wr V→mZ 3 V w.heap.size (.slice (some ⟨gg,0,none⟩) (pls G is k).length gc) (rL (pls G is k))∧V.heap[Bi]? = some (.cells (is.map Value.bool).toArray 4 (0,0))∧fh V w.heap.size 50 (.slice (some ⟨b1,off1,none⟩) ms.length c1) (.slice a2 n2 c2) (.slice a3 n3 c3) (.int .i64 G.next) (.int .i64 G.seed)∧Below w.heap.size w V):=fun V hV=>⟨bW hO hV,(hV.block Bi (lt_of_block hBi)).trans hBi,aJ hT hV,hB.trans (hV.mono hB.size)⟩
   have HNO:Hid (gB G is k=false→∀V,Below wr.heap.size wr V→mZ 3 V w.heap.size (.slice (some ⟨gg,0,none⟩) (pls G is k).length gc) (rL (pls G is (k+1)))∧(∀b ∈ blk (.slice (some ⟨gg,0,none⟩) (pls G is k).length gc),b≠Bi∧w.heap.size<b)∧(∃g c,Value.slice (some ⟨gg,0,none⟩) (pls G is k).length gc = .slice (some ⟨g,0,none⟩) (pls G is (k+1)).length c)∧V.heap[Bi]? = some (.cells (is.map Value.bool).toArray 4 (0,0))∧fh V w.heap.size 50 (.slice (some ⟨b1,off1,none⟩) ms.length c1) (.slice a2 n2 c2) (.slice a3 n3 c3) (.int .i64 G.next) (.int .i64 G.seed)∧Below w.heap.size w V):=fun e V hV=>by
    obtain⟨k1,k2,k3,k4⟩:=HKP.out V hV;rw[Hv e];exact⟨k1,hbk,⟨gg,gc,rfl⟩,k2,k3,k4⟩
   have HYES:Hid (gB G is k=true→∀V,Below wr.heap.size wr V→∀(v':Value) (w5:World),w5.ownsRow w.heap.size 3 1 v' ((pls G is k).length+1) (cellsOf (rL (pls G is k))++[.int .i64 (k:Int)])→(V.alloc (.cells #[.int .i64 (k:Int)] 3)).grownBy w5 (Value.slice (some ⟨gg,0,none⟩) (pls G is k).length gc).ownBlock→(v'.ownBlock=(Value.slice (some ⟨gg,0,none⟩) (pls G is k).length gc).ownBlock∨v'.ownBlock=some (V.alloc (.cells #[.int .i64 (k:Int)] 3)).heap.size) →
       (∃g c,v' = .slice (some ⟨g,0,none⟩) ((pls G is k).length+1) c)∧mZ 3 w5 w.heap.size v' (rL (pls G is (k+1)))∧(∀b ∈ blk v',b≠Bi∧w.heap.size<b)∧(∃g c,v' = .slice (some ⟨g,0,none⟩) (pls G is (k+1)).length c)∧w5.heap[Bi]? = some (.cells (is.map Value.bool).toArray 4 (0,0))∧fh w5 w.heap.size 50 (.slice (some ⟨b1,off1,none⟩) ms.length c1) (.slice a2 n2 c2) (.slice a3 n3 c3) (.int .i64 G.next) (.int .i64 G.seed)∧Below w.heap.size w w5):=fun e V hV v' w5 hown hg hat=>by
    obtain⟨k1,k2,k3,k4⟩:=HKP.out V hV;have hl:(rL (pls G is k)).length=(pls G is k).length:=by simp
    obtain⟨on,ch,nb⟩:=Gj (x:=(k:Int)) k1 (by rw[hl];exact hown) hg hat;have lB:=lt_of_block k2;have sV:=hV.size;have lw:=lt_of_block hT
    have hform:∃g c,v' = .slice (some ⟨g,0,none⟩) ((pls G is k).length+1) c:=by
     obtain⟨_,⟨_,q0⟩|⟨g,c',cur,q1,_⟩⟩:=hown
     ·omega
     ·exact⟨g,c',q1⟩
    rw[G6 e];refine⟨hform,by rw[rL,List.map_append];exact on,fun b hb => ?_,by rw[List.length_append];exact hform,(ch.block Bi lB (fun e=>(hbk Bi e).1 rfl)).trans k2,eV k3 ch (fun e=>Nat.lt_irrefl _ (hbk _ e).2),k4.trans (bn ch k4.size fun b hb=>by have:=(hbk b hb).2;omega)⟩
    rcases nb b hb with e|e
    ·exact hbk b e
    ·have:=lt_of_block hBi;omega
   clear hmo hco hcc1 hkG;generalize ms.getD k moD=mo at *;obtain⟨mi,mc,mf,mh,msv,msl⟩:=mo;simp only at x0 x1 x2 x3 x4 hsl hsv HKEY HAWT HFM HAB;subst hsl;have BY:Below wr.heap.size wr (wr.alloc (ob ⟨mi,mc,mf,mh,.slice sa msl.length sc,msl⟩)):=(Below.refl _ _).alloc (Nat.le_refl _) _;have TY:=fX wr 60 (.int .i64 mi) (.int .i64 mc) (.int .i64 mf) (.int .i64 mh) (.slice sa msl.length sc);obtain⟨t0,t1,t2,t3,t4,_⟩:=ak TY;have ci:=HCB.out _ BY k hlt;obtain⟨q0,_⟩:=ak (aJ hT BY);have HBY:Hid _:=BY;clear hO hbk hBi hT hB hsv TY e2;cases di:is.getD k false
   ·have HX:Hid _:=HNO.out (Ja di) _ HBY.out;rw[di]at ci;clear HAB HCB HKP HNO HYES HAWT HKEY HFM BY di;go_wp2;exact⟨⟨k+1,_,rfl,by omega,by go_num,HX.out⟩,by simp[intOf];omega⟩
   ·rw[di]at ci;by_cases hf:mf=2
    ·subst hf;have AB:=HAB.out _ BY rfl;have HAWI:Hid (awI G.objs msl=if fG G.objs (msl.getD 0 bU)=true then (cV G.objs (msl.getD 0 bU):Int) else -1):=rfl;cases dl:fG G.objs (msl.getD 0 bU)
     ·have ea:awt G.objs (G.objs.getD k obD)=none:=by rw[HAWT.out,dl];simp
      have HN:Hid _:=HNO.out (G7 ea);have ei:awI G.objs msl = -1:=by rw[HAWI.out,dl];rfl
      rw[ei]at AB;clear HAB HCB HKP HNO HYES HAWT HKEY HFM BY di HAWI ea ei;go_wp2_with (go_at_call 99;refine AB.mono ?_;clear AB;rintro e w4 ⟨rfl,b4⟩;have HX:Hid _:=HN.out w4 (HBY.out.trans (b4.mono HBY.out.size));clear b4);exact⟨⟨k+1,_,rfl,by omega,by go_num,HX.out⟩,by simp[intOf];omega⟩
     ·have hq:=gT dl;rw[←HLEN.out]at hq;have ea:awt G.objs (G.objs.getD k obD)=some (cV G.objs (msl.getD 0 bU)):=by rw[HAWT.out,dl];simp
      have eg:=G8 (is:=is) di (by rw[←HFM.out]) ea;have ei:awI G.objs msl=(cV G.objs (msl.getD 0 bU):Int):=by rw[HAWI.out,dl];rfl
      rw[ei]at AB;clear HAB HKP HAWT HKEY HFM BY di HAWI ea ei dl;generalize cV G.objs (msl.getD 0 bU)=qq at *
      have hm1:((qq:Int) != -1)=true:=by
       rw[bne_iff_ne];omega
      cases dq:is.getD qq false
      ·rw[dq]at eg;have HY:Hid _:=HYES.out eg;have HCQ:Hid (∀V,Below wr.heap.size wr V→V.cell? ⟨Bi,qq,none⟩=some (.bool false)):=fun V hV=>by rw[HCB.out V hV qq hq,dq]
       have HKQ:Hid (∀V,Below wr.heap.size wr V→mZ 3 (V.alloc (.cells #[.int .i64 (k:Int)] 3)) w.heap.size (.slice (some ⟨gg,0,none⟩) (pls G is k).length gc) (rL (pls G is k))∧w.heap.size≤(V.alloc (.cells #[.int .i64 (k:Int)] 3)).heap.size):=fun V hV=>⟨bW (bW HO.out hV) ((Below.refl _ _).alloc (Nat.le_refl _) _),by have:=(HB.out.size);have:=hV.size;simp;omega⟩
       have hpl:=BL G is k;clear HNO HYES HCB eg dq;go_wp2_with fail;refine AB.mono ?_;rintro e w4 ⟨rfl,b4⟩;have BV:=HBY.out.trans (b4.mono HBY.out.size);have cq:=HCQ.out w4 BV;obtain⟨own,sz⟩:=HKQ.out w4 BV
       have HOA:Hid ((w4.alloc (.cells #[.int .i64 (k:Int)] 3)).ownsRow w.heap.size 3 1 (.slice (some ⟨gg,0,none⟩) (pls G is k).length gc) (pls G is k).length (cellsOf (rL (pls G is k)))):=by
        have:=own
        unfold mZ at this;rw[List.length_map]at this;exact this
       have HNW:Hid _:=Gl w4 3 (k:Int);have HYV:Hid _:=HY.out w4 BV;clear AB b4 BV own HY HCQ HKQ;generalize hps:pls G is k=ps at *;go_wp2_with (refine wpList_append_own_at _ rfl (.tmp 42) (.tmp 44) 94 rfl w.heap.size 3 i0 (.int .i64 0) 1 8 Tryz.underlying94 HI0.out HZ0.out HZ1.out HZ2.out rfl (by decide) (.slice (some ⟨gg,0,none⟩) ps.length gc) ps.length (cellsOf (rL ps)) rfl HOA.out ⟨w4.heap.size,0,none⟩ 1 1 [.int .i64 (k:Int)] rfl rfl HNW.out (by simp[Value.oneCell']) (by unfold maxLen;omega) (by omega) sz ?_;intro v' w5 hown hgrow _ hat;obtain⟨⟨g5,c5,rfl⟩,st⟩:=HYV.out v' w5 hown hgrow hat;have HST:Hid _:=st;clear st hown hgrow hat);exact⟨⟨k+1,_,rfl,by omega,by go_num,HST.out⟩,by simp[intOf];omega⟩
      ·rw[dq]at eg;have HN:Hid _:=HNO.out eg;have HCQ:Hid (∀V,Below wr.heap.size wr V→V.cell? ⟨Bi,qq,none⟩=some (.bool true)):=fun V hV=>by rw[HCB.out V hV qq hq,dq]
       clear HNO HYES HCB eg dq;go_wp2_with (go_at_call 99;refine AB.mono ?_;clear AB;rintro e w4 ⟨rfl,b4⟩;have cq:=HCQ.out w4 (HBY.out.trans (b4.mono HBY.out.size));have HX:Hid _:=HN.out w4 (HBY.out.trans (b4.mono HBY.out.size));clear b4);exact⟨⟨k+1,_,rfl,by omega,by go_num,HX.out⟩,by simp[intOf];omega⟩
    ·have HX:Hid _:=HNO.out (Hw (by rw[←HFM.out];exact hf)) _ HBY.out;have hf':(mf != 2)=true:=by simpa using hf
     clear HAB HCB HKP HNO HYES HAWT HKEY HFM BY di hf;go_wp2;exact⟨⟨k+1,_,rfl,by omega,by go_num,HX.out⟩,by simp[intOf];omega⟩
  ·have e:k=ms.length:=by omega
   subst e
   have hgrv:∀p,p ∈ pls G is ms.length↔Grv G p:=fun p=>by
    rw[xq,I8 HRC.out];exact⟨fun h=>h.2,fun h=>⟨by rw[HLEN.out];exact jY h,h⟩⟩
   by_cases hps:pls G is ms.length=[]
   ·have HIS:Hid (IsG G []):=⟨List.Pairwise.nil,fun p=>by rw[←hps];exact hgrv p⟩;rw[hps];rw[hps]at hO HO;simp only[List.length_nil]at HO ⊢;have SN:=AnyF.slices_SortFunc_none (P:=Tryz.prog) (ρ:=vU) { Iq with } (some ⟨gg,0,none⟩) gc (.func (.func 101) #[] #[.pointer (some ⟨w.heap.size,0,none⟩)]) wr;change Calls Tryz.prog 100 _ _ _ at SN
    have HOF:Hid (mZ 3 wr w.heap.size (.slice (some ⟨gg,0,none⟩) 0 gc) (rL [])):=HO.out;clear hO hbk hBi hT hB hgrv hps;go_wp2_with (go_at_call 100;refine SN.mono ?_;clear SN;rintro e w6 ⟨rfl,hw6⟩;rw[hw6];clear hw6);go_ret;exact⟨_,[],rfl,HIS.out,HOF.out,HB.out⟩
   ·obtain⟨pf,hpf⟩:=Fl (n:=ms.length) (pls G is ms.length) (fun p hp=>(xq.1 hp).1)
    have hnd:pf.Nodup:=by
     have h1:=BM G is ms.length;rw[←hpf]at h1;exact (List.pairwise_map.1 h1).imp (fun h e=>h (congrArg Fin.val e))
    have hpl:pf.length=(pls G is ms.length).length:=by rw[←hpf];simp
    have hpos:0<ms.length:=by
     obtain⟨p0,hp0⟩:=List.exists_mem_of_ne_nil _ hps;have:=(xq.1 hp0).1
     omega
    have hnum:rL (pls G is ms.length)=pf.map fun x=>((x.val:Nat):Int):=by
     rw[←hpf];simp[rL,List.map_map]
    have hlB:=BL G is ms.length;have hgg:=hbk gg (by simp[blk,Value.ownBlock])
    have SP:=rK (W:=wr) (base:=w.heap.size) (blk:=gg) (cap:=gc) (Pg:=w.heap.size) (a1:=a1) (c1:=c1) (He HG.out.1 (fY HOK.out)) (fP HG.out.2.1) pf hnd hpos (by omega) (by rw[hpl,←hnum];exact hO) (fun V hV=>by
     have hBV:Below w.heap.size w V:=hB.trans (bn hV hB.size (fun k hk=>by simp at hk;omega));have hTV:=eV hT hV (fun e=>by simp at e;omega);exact⟨lt_of_block hTV,(ak hTV).1,cC HG.out.2.1.1 hBV⟩)
    rw[hpl]at SP
    have HFIN:Hid (∀(w6:World) (qs:List (Fin ms.length)),mZ 3 w6 w.heap.size (.slice (some ⟨gg,0,none⟩) (pls G is ms.length).length gc) (qs.map fun x=>((x.val:Nat):Int))→Ch [gg] wr w6→qs.Pairwise (fun x y=>ltOf (cfP ms) x y=true)→(∀p,p ∈ qs↔p ∈ pf)→∃ps,IsG G ps∧mZ 3 w6 w.heap.size (.slice (some ⟨gg,0,none⟩) (pls G is ms.length).length gc) (rL ps)∧Below w.heap.size w w6):=fun w6 qs h1 h2 h3 h4=>by
     refine⟨qs.map Fin.val,⟨?_,fun p => ?_⟩,?_,hB.trans (bn h2 hB.size (fun k hk=>by simp at hk;omega))⟩
     ·rw[List.pairwise_map];refine h3.imp fun {a b} h => ?_
      have:=(ltP ms a b).1 h
      have ga:=fO HG.out a.val;have gb':=fO HG.out b.val;unfold ltG;rw[←ga,←gb'];exact this
     ·rw[←hgrv p,←hpf,List.mem_map,List.mem_map];constructor
      ·rintro⟨x,hx,e⟩;exact⟨x,(h4 x).1 hx,e⟩
      ·rintro⟨x,hx,e⟩;exact⟨x,(h4 x).2 hx,e⟩
     ·have e:rL (qs.map Fin.val)=qs.map fun x=>((x.val:Nat):Int):=by simp[rL,List.map_map]
      rw[e];exact h1
    clear hO hbk hBi hT hB hgrv hps hpf hnd hpl hnum hgg;generalize (pls G is ms.length).length=nn at *;go_wp2_with (go_at_call 100;refine SP.mono ?_;clear SP;rintro e w6 ⟨rfl,qs,o6,ch6,pw6,mm6,_⟩;obtain⟨ps,f1,f2,f3⟩:=HFIN.out w6 qs o6 ch6 pw6 mm6;have HF1:Hid _:=f1;have HF2:Hid _:=f2;have HF3:Hid _:=f3;clear f1 f2 f3 o6 ch6 pw6 mm6);go_ret;exact⟨_,ps,rfl,HF1.out,HF2.out,HF3.out⟩
theorem BN {t:TypeId} {w:World} {base:Nat} {a:Option Addr} {n c:Nat} {xs:List Int} (h:mZ t w base (.slice a n c) xs) {i:Nat} (hi:i<xs.length):∃g,a=some ⟨g,0,none⟩∧w.cell? ⟨g,i,none⟩=some (.int .i64 (xs.getD i 0))∧g<w.heap.size:=by
 have h':=h;obtain⟨h0,⟨h1,h2⟩|⟨g,cap,cur,h1,hg,hh,_⟩⟩:=h
 ·omega
 ·injection h1 with e1 e2 e3
  subst e1 e2 e3;have:=World.ownsRow.cellAt h' i (by omega)
  refine⟨g,rfl,?_,lt_of_block hh⟩
  rw[this];simp[List.getD_eq_getElem?_getD,List.getElem?_eq_getElem hi]
end Go.Proofs.YtocidankimefpaaGreatDoor.gr
