/- What the program's Walk answers. Chapter -/
import Derived.Test.YtocidankimefpaaGreatDoorM6
import Derived.Maps.OwnIn
import Derived.Test.YtocidankimefpaaGreatDoorReachI3
import Derived.Deep.OwnRows
import Derived.Test.YtocidankimefpaaGreatDoorReachS2
import Derived.Test.YtocidankimefpaaGreatDoorSortLay
set_option linter.unusedVariables false
set_option maxRecDepth 100000
namespace Go.Proofs.YtocidankimefpaaGreatDoor.walks
open Go.RowKit Go.Shelf rows heads words
theorem Gg {w:World} {v:Value} {xs:List Int} {f t:Int} (h:au w v xs) (ht:I64 t) (d:gC xs f t=false) :
    Calls Tryz.prog 127 #[v,.int .i64 f,.int .i64 t] w fun e w'=>∃v',e = .returned (.tuple #[v',.bool false])∧rows.Own w' w.heap.size v' []∧Below w.heap.size w w':=by
 have h':=h;obtain⟨a,cap,rfl,hlc,hcm,_,hc⟩:=h;clear hc;cases dc:oT xs.length 0 t
 ·cases dr:jl xs
  all_goals
   go_enter Tryz.func127,Tryz.ntmps127;go_wp2_with fail;refine (Cg hlc hcm 0 t ⟨by decide,by decide⟩ ht dc).mono ?_;rintro e w1 ⟨rfl,hw1⟩;rw[hw1];clear hw1 w1;go_wp2_with (go_at_call 126;refine (gk h').mono ?_;rintro e w2 ⟨rfl,hw2⟩;rw[hw2];clear hw2 w2);go_ret2;exact⟨_,rfl,qt _ _,Below.refl _ _⟩
 ·obtain⟨_,t0,t1⟩:=kC dc;obtain⟨T,rfl⟩:=Int.eq_ofNat_of_zero_le t0;have hp:∃ad,piece a 0 T = .slice ad T T:=⟨_,rfl⟩
  obtain⟨ad,hp⟩:=hp;cases dr:jl xs
  ·go_enter Tryz.func127,Tryz.ntmps127;go_wp2_with fail;refine (nH hlc hcm 0 T (by omega)).mono ?_;rintro e w1 ⟨rfl,hw1⟩;rw[hw1,hp];clear hw1 w1 hp;go_wp2_with (go_at_call 126;refine (gk h').mono ?_;rintro e w2 ⟨rfl,hw2⟩;rw[hw2];clear hw2 w2);go_ret2;exact⟨_,rfl,qt _ _,Below.refl _ _⟩
  ·by_cases h1:f<0
   ·go_enter Tryz.func127,Tryz.ntmps127;go_wp2_with fail;refine (nH hlc hcm 0 T (by omega)).mono ?_;rintro e w1 ⟨rfl,hw1⟩;rw[hw1,hp];clear hw1 w1 hp;go_wp2_with (go_at_call 126;refine (gk h').mono ?_;rintro e w2 ⟨rfl,hw2⟩;rw[hw2];clear hw2 w2);go_ret2;exact⟨_,rfl,qt _ _,Below.refl _ _⟩
   ·have h2:f > (T:Int):=by
      simp only[gC,dr,Bool.true_and,decide_eq_false_iff_not]at d;omega
    go_enter Tryz.func127,Tryz.ntmps127;go_wp2_with fail;refine (nH hlc hcm 0 T (by omega)).mono ?_;rintro e w1 ⟨rfl,hw1⟩;rw[hw1,hp];clear hw1 w1 hp;go_wp2_with (go_at_call 126;refine (gk h').mono ?_;rintro e w2 ⟨rfl,hw2⟩;rw[hw2];clear hw2 w2);go_ret2;exact⟨_,rfl,qt _ _,Below.refl _ _⟩
theorem zT {w:World} {a:Option Addr} {cap:Nat} {xs:List Int} (h:au w (.slice a xs.length cap) xs) (hl:xs.length≤1048576) (T:Nat) (hT:T≤xs.length) :
    ∃ad,piece a 0 T = .slice ad T T∧au w (.slice ad (xs.take T).length T) (xs.take T):=by
 obtain⟨a',cap',e,hlc,hcm,hnil,hc⟩:=h;injection e with e1 e2 e3
 subst e1 e3;have el:(xs.take T).length=T:=by simp;omega
 rw[el];by_cases h0:T=0
 ·subst h0;exact⟨a,iV _ _,a,0,by simp,by simp,by decide,fun _=>rfl,fun h=>by simp at h⟩
 ·obtain⟨b,off,rfl,hb,hcc⟩:=hc (by omega);refine⟨_,eU b off 0 T (by omega),_,T,by rw[el],by omega,by unfold maxLen;omega,fun h=>by simp at h,fun _=>⟨b,off+0,rfl,hb,fun k hk => ?_⟩⟩
  rw[el]at hk;have:=hcc k (by omega)
  rw[Nat.add_zero,this];simp[List.getD_eq_getElem?_getD,hk]
theorem tE {W:World} {b:Nat} {cs:Array Value} (h:W.heap[b]? = some (Obj.cells cs 56 (0,0))) {base k:Nat} {v:Value} {xs:List Value} (hr:W.ownsRow base 2 1 v k xs):some b≠v.ownBlock:=by
 rcases hr.2 with ⟨rfl,_⟩|⟨g,cap,cur,rfl,_,hgb,_⟩
 ·simp[Value.ownBlock]
 ·intro e';obtain rfl:b=g:=by simpa [Value.ownBlock] using e'
  have:=h.symm.trans hgb
  simp at this
theorem Ea {W w1:World} {n₀ P E Br Bx k m:Nat} {v v' e r u:Value} {xs ys:List Value} {tmp:Obj} {s f c h:Int} {p q:Bool}
    (bP:Boxed W P 22 v) (hrow:W.ownsRow n₀ 2 1 v k xs) (hvE:v.ownBlock≠some E) (bE:Boxed W E 2 e) (bR:Boxed W Br 22 r) (M:lR W Bx s f c h p q u)
    (hn₀:n₀≤W.heap.size) (hP:n₀≤P) (hPE:E≠P) (hPR:Br≠P)
    (hown':w1.ownsRow n₀ 2 1 v' m ys) (hgrow:(W.alloc tmp).grownBy w1 v.ownBlock) (hat:v'.ownBlock=v.ownBlock∨v'.ownBlock=some (W.alloc tmp).heap.size) :
    Boxed w1 P 22 v∧Boxed (w1.setCell ⟨P,0,none⟩ v') P 22 v'∧(w1.setCell ⟨P,0,none⟩ v').ownsRow n₀ 2 1 v' m ys∧KeepsOthers W (w1.setCell ⟨P,0,none⟩ v')∧Below n₀ W (w1.setCell ⟨P,0,none⟩ v') ∧
     Boxed (w1.setCell ⟨P,0,none⟩ v') E 2 e∧Boxed (w1.setCell ⟨P,0,none⟩ v') Br 22 r∧lR (w1.setCell ⟨P,0,none⟩ v') Bx s f c h p q u∧v'.ownBlock≠some E ∧
     ∀(b:Nat) (cs:Array Value),W.heap[b]? = some (Obj.cells cs 56 (0,0))→(w1.setCell ⟨P,0,none⟩ v').heap[b]? = some (Obj.cells cs 56 (0,0)):=by
 obtain⟨a1,a2,a3,a4,a5⟩:=bP.appended (by decide) hrow hn₀ hP hown' hgrow
 have CK:∀(b:Nat) (cs:Array Value),W.heap[b]? = some (Obj.cells cs 56 (0,0))→(w1.setCell ⟨P,0,none⟩ v').heap[b]? = some (Obj.cells cs 56 (0,0)):=fun b cs hb=>by
  have hne:b≠P:=fun e'=>by
   subst e';have:=hb.symm.trans bP
   simp at this
  have hlt:=(Array.getElem?_eq_some_iff.1 hb).1;exact (Below.heap_setCell w1 ⟨P,0,none⟩ v' b hne).trans ((hgrow.block b (by simp;omega) (tE hb hrow)).trans ((Below.heap_alloc W tmp b hlt).trans hb))
 refine⟨a1,a2,a3,a4,a5,((bE.alloc tmp).kept hgrow (fun e'=>hvE e'.symm)).other hPE v',((bR.alloc tmp).kept hgrow (bR.not_row (by decide) hrow)).other hPR v',CK _ _ M,?_,CK⟩
 rcases hat with e'|e'
 ·rw[e'];exact hvE
 ·rw[e'];intro e2;injection e2 with e2
  have:=bE.lt
  simp at e2;omega
theorem Eb {W:World} {n₀ P E Br m:Nat} {v e e' r:Value} {ys:List Value} {o:Obj}
    (bP:Boxed W P 22 v) (hrow:W.ownsRow n₀ 2 1 v m ys) (hvE:v.ownBlock≠some E) (bE:Boxed W E 2 e) (bR:Boxed W Br 22 r) (hn₀:n₀≤W.heap.size) (hE:n₀≤E) (hPE:E≠P) (hER:E≠Br) :
    Boxed ((W.alloc o).setCell ⟨E,0,none⟩ e') P 22 v∧((W.alloc o).setCell ⟨E,0,none⟩ e').ownsRow n₀ 2 1 v m ys∧Boxed ((W.alloc o).setCell ⟨E,0,none⟩ e') E 2 e'∧Boxed ((W.alloc o).setCell ⟨E,0,none⟩ e') Br 22 r∧KeepsOthers W ((W.alloc o).setCell ⟨E,0,none⟩ e')∧Below n₀ W ((W.alloc o).setCell ⟨E,0,none⟩ e') ∧
     ∀(b:Nat) (cs:Array Value),W.heap[b]? = some (Obj.cells cs 56 (0,0))→((W.alloc o).setCell ⟨E,0,none⟩ e').heap[b]? = some (Obj.cells cs 56 (0,0)):=by
 refine⟨(bP.alloc o).other (Ne.symm hPE) e',(hrow.alloc o).kept (grownBy_setCell' _ E e') (.inr hvE),(bE.alloc o).set e',(bR.alloc o).other (Ne.symm hER) e',(KeepsOthers.alloc W o).trans (KeepsOthers.setCell _ _ _),((Below.refl n₀ W).alloc hn₀ o).setCell (p:=⟨E,0,none⟩) hE e',fun b cs hb => ?_⟩
 have hne:b≠E:=fun e1=>by
  subst e1;have:=hb.symm.trans bE
  simp at this
 exact (Below.heap_setCell _ ⟨E,0,none⟩ e' b hne).trans ((Below.heap_alloc W o b (Array.getElem?_eq_some_iff.1 hb).1).trans hb)
theorem C9 {W:World} {base g:Nat} (hg:W.heap[g]? = some (.cells #[] 2 (0,0))) (hb:base≤g):W.ownsRow base 2 1 (.slice (some ⟨g,0,none⟩) 0 0) 0 []:=
 ⟨rfl,.inr ⟨g,0,#[],rfl,hb,hg,Nat.le_refl _,by decide,rfl,rfl⟩⟩
attribute [local go_sem] Oper.semAt_some
set_option maxRecDepth 100000 in
set_option maxHeartbeats 4000000 in
theorem Ec {w:World} {a:Option Addr} {cap:Nat} {xs:List Int} (h:au w (.slice a xs.length cap) xs) (ha:iO xs) (dr:jl xs=true) (F T:Nat) (hFT:F≤T) (hT:T≤xs.length) :
    Calls Tryz.prog 127 #[.slice a xs.length cap,.int .i64 F,.int .i64 T] w fun e w'=>∃v',e = .returned (.tuple #[v',.bool (fK xs F T)])∧rows.Own w' w.heap.size v' (walked xs F T)∧Below w.heap.size w w':=by
 have hr:=zW dr;have h':=h;obtain⟨a',cap',e,hlc,hcm,hnil,_⟩:=h;injection e with e1 e2 e3
 subst e1 e3;obtain⟨ad,hp,hI⟩:=zT h' (by omega) T hT;have CUT:=callsIn_wide (n:=8-1).2 (nH (w:=w) (a:=a) hlc hcm 0 T (by omega));rw[hp]at CUT;have ROW:=callsIn_wide (n:=8-1).2 (gk h');rw[dr]at ROW;clear hp;refine callsIn_wide (n:=8).1 ?_;refine callsIn_of_wp_marks Tryz.func127 rfl trivial ?_ rfl;simp only[Tryz.ntmps127,List.size_toArray,List.length_cons,List.length_nil,Nat.reduceAdd,Nat.reduceSub,Array.replicate_succ,Array.replicate_zero,List.push_toArray,List.append_toArray,List.nil_append,List.cons_append];gi_wp2_with fail
 refine⟨trivial,CUT.mono ?_⟩
 rintro e w1 ⟨rfl,hw1⟩;rw[hw1];clear hw1 w1 CUT;gi_wp2_with fail
 refine⟨trivial,ROW.mono ?_⟩
 rintro e w1 ⟨rfl,hw1⟩;rw[hw1];clear hw1 w1 ROW;have hf1:¬(F:Int)<0:=by omega
 have hf2:¬(F:Int) > T:=by omega
 gi_wp2_with fail
 refine⟨trivial,(callsIn_wide.2 (At ad T T F _)).mono ?_⟩
 rintro e w1 ⟨rfl,hw1⟩
 have B0:Below w.heap.size w w1:=by
  rw[hw1];exact ((((((Below.refl _ w).alloc (Nat.le_refl _) _).alloc (by simp) _).alloc (by simp;omega) _).alloc (by simp;omega) _).alloc (by simp;omega) _)
 have s0:w1.heap.size=w.heap.size+5:=by rw[hw1];simp
 have E0:w1.heap[w.heap.size]? = some (.cells #[] 2 (0,0)):=by
  rw[hw1];exact (Below.heap_alloc _ _ _ (by simp;omega)).trans ((Below.heap_alloc _ _ _ (by simp;omega)).trans ((Below.heap_alloc _ _ _ (by simp;omega)).trans ((Below.heap_alloc _ _ _ (by simp)).trans (heap_alloc_new w _))))
 have bP:Boxed w1 (w.heap.size+1) 22 (.slice (some ⟨w.heap.size,0,none⟩) 0 0):=by
  rw[hw1];have:=Boxed.new (w.alloc (.cells #[] 2)) 22 (.slice (some ⟨w.heap.size,0,none⟩) 0 0)
  rw[World.size_alloc]at this;exact ((this.alloc _).alloc _).alloc _
 have bE:Boxed w1 (w.heap.size+1+1) 2 (.int .i64 F):=by
  rw[hw1];have:=Boxed.new ((w.alloc (.cells #[] 2)).alloc (.cells #[.slice (some ⟨w.heap.size,0,none⟩) 0 0] 22)) 2 (.int .i64 F)
  rw[World.size_alloc,World.size_alloc]at this;exact (this.alloc _).alloc _
 have bR:Boxed w1 (w.heap.size+1+1+1) 22 (.slice ad T T):=by
  rw[hw1];have:=Boxed.new (((w.alloc (.cells #[] 2)).alloc (.cells #[.slice (some ⟨w.heap.size,0,none⟩) 0 0] 22)).alloc (.cells #[.int .i64 F] 2)) 22 (.slice ad T T)
  rw[World.size_alloc,World.size_alloc,World.size_alloc]at this;exact this.alloc _
 have bF:Boxed w1 (w.heap.size+1+1+1+1) 2 (.int .i64 F):=by
  rw[hw1];have:=Boxed.new ((((w.alloc (.cells #[] 2)).alloc (.cells #[.slice (some ⟨w.heap.size,0,none⟩) 0 0] 22)).alloc (.cells #[.int .i64 F] 2)).alloc (.cells #[.slice ad T T] 22)) 2 (.int .i64 F)
  rw[World.size_alloc,World.size_alloc,World.size_alloc,World.size_alloc]at this;exact this
 have hI':∀W,Below w.heap.size w1 W→au W (.slice ad (xs.take T).length T) (xs.take T):=fun W hW=>aa hI (B0.trans hW)
 have el:(xs.take T).length=T:=by simp;omega
 have bR':Boxed w1 (w.heap.size+1+1+1) 22 (.slice ad (xs.take T).length T):=by rw[el];exact bR
 have haT:iO (xs.take T):=CW ha T;have hWB:=GC hT (by omega) (T-F) F (Nat.le_refl _) hFT;have STOPS:=vQ (8-1) (by decide) (w.heap.size+1+1+1) (w.heap.size+1+1+1+1) w.heap.size F ad T (xs.take T) (by omega) haT (by omega) w1 (by omega) (by omega) (by omega) bR' bF.cell hI';have hlen:=Aq (xs.take T) F;have CH:=zb (xs.take T);have CN:=vP (xs.take T);rw[el]at hlen CH;obtain⟨i0,hi,hz0,hz1,hz2⟩:=info_parts info;generalize xs.take T=ys at *;clear bR' bF hI' haT;gi_wp2_with fail
 rw[←hw1];clear hw1
 refine wpIn_rangeFunc_ownH rfl (by decide) (gf:=187) (lb:=#[.pointer (some ⟨w.heap.size+1+1+1+1,0,none⟩),.pointer (some ⟨w.heap.size+1+1+1,0,none⟩)]) rfl trivial (enters_of Tryz.func187 (by kernel_rfl) rfl)
  STOPS JG (JH (by omega) (by omega)) (Below.refl _ _) (fun _=>rfl)
  (fun pre W=>(∃v,Boxed W (w.heap.size+1) 22 v∧W.ownsRow w.heap.size 2 1 v pre.length (cellsOf (pre.map (fun p=>(p.val:Int))))∧v.ownBlock≠some (w.heap.size+1+1))∧Boxed W (w.heap.size+1+1) 2 (.int .i64 (enf ys F pre))∧Boxed W (w.heap.size+1+1+1) 22 (.slice ad T T)∧Below w.heap.size w W)
  (fun _ _ _=>False)
  (OwnFrom.and (Own.from (holdsRow_own w.heap.size (w.heap.size+1) 22 2 1 (fun pre:List Pl=>pre.length) (fun pre:List Pl=>cellsOf (pre.map (fun p=>(p.val:Int)))) (fun _ v=>v.ownBlock≠some (w.heap.size+1+1))) _) (OwnFrom.and (Own.from (boxed_own _ _ (fun pre=>Value.int .i64 (enf ys F pre))) _) (OwnFrom.and (Own.from (boxed_own _ _ (fun _=>Value.slice ad T T)) _) (ownFrom_below (Nat.le_refl _) (by omega)))))
  (fun _ _ _ _ _ hs _ _=>hs)
  ⟨⟨_,bP,C9 E0 (Nat.le_refl _),fun e=>by have e':w.heap.size=w.heap.size+1+1:=Option.some.inj e;omega⟩,bE,bR,B0⟩
  (fun x a' W=>∃Bx,w.heap.size+1+1+1<Bx∧lR W Bx (uS (ys.getD x.val 0)) (uF (ys.getD x.val 0)) (uC (ys.getD x.val 0)) (uH (ys.getD x.val 0)) (uP (ys.getD x.val 0)) (uM (ys.getD x.val 0)) (piece ad x.val (chunk ys x.val).toNat) ∧
   a' = { tmps:=#[.slice a xs.length cap,.int .i64 F,.int .i64 T,undef,undef,undef,.slice none 0 0,.bool false,.slice ad T T,.bool true,.pointer (some ⟨w.heap.size+1,0,none⟩),.pointer (some ⟨w.heap.size+1+1,0,none⟩),.int .i64 (x.val:Int),.pointer (some ⟨Bx,0,none⟩),
    .tuple #[.slice ad T T,.bool true],.slice a xs.length cap,.int .i64 T,.tuple #[.slice ad T T,.bool true],.slice ad T T,.bool true,.slice a xs.length cap,.bool true,.bool false,.bool false,.bool true,.bool false,.bool false,.bool false,.int .i64 F,
    .bool (decide ((F:Int)<0)),.bool (decide ((F:Int)<0)),.bool (decide ((F:Int)<0)),.int .i64 F,.int .i64 T,.bool false,.bool (decide ((F:Int)<0)),.slice (some ⟨w.heap.size,0,none⟩) 0 0,.int .i64 F,.slice ad T T,.int .i64 F,
    .func (.func 187) #[] #[.pointer (some ⟨w.heap.size+1+1+1+1,0,none⟩),.pointer (some ⟨w.heap.size+1+1+1,0,none⟩)],.int .i64 (x.val:Int),cv (uS (ys.getD x.val 0)) (uF (ys.getD x.val 0)) (uC (ys.getD x.val 0)) (uH (ys.getD x.val 0)) (uP (ys.getD x.val 0)) (uM (ys.getD x.val 0)) (piece ad x.val (chunk ys x.val).toNat),undef,undef,undef,undef,undef,undef,undef,undef,undef,undef,undef,undef],defers:=[] })
  (fun x a' _ X Y row hs hg hr=>by
   obtain⟨Bx,h1,h2,h3⟩:=hs;exact⟨Bx,h1,(hg.block Bx (lt_of_block h2) (fun e=>by obtain⟨_,o,ho,hc⟩:=hr Bx e.symm;rw[show X.heap[Bx]? = _ from h2]at ho;cases ho;cases hc)).trans h2,h3⟩)
  ?assign ?body ?done ?stop
 case assign=>
  rintro l pre x W K ⟨⟨v,c1,c2,c3⟩,c4,c5,c6⟩ hK;have sW:=c6.size;have hlt:=c5.lt;simp only[encs,piece]at hK ⊢;generalize uS (ys.getD x.val 0)=s at *;generalize uF (ys.getD x.val 0)=f at *;generalize uC (ys.getD x.val 0)=c at *;generalize uH (ys.getD x.val 0)=g at *;generalize uP (ys.getD x.val 0)=p at *;generalize uM (ys.getD x.val 0)=m at *;generalize (chunk ys x.val).toNat=N at *;generalize (if N=0 then ad else Option.map (fun y=>y.add x.val) ad)=pd at *;gi_wp2
  exact hK _ _ ((KeepsOthers.alloc _ _).from _) ⟨(Below.refl _ W).alloc sW _,Below.heap_alloc W _ _ hlt,fun b cs hb=>(Below.heap_alloc W _ b (Array.getElem?_eq_some_iff.1 hb).1).trans hb⟩ ⟨⟨v,c1.alloc _,c2.alloc _,c3⟩,c4.alloc _,c5.alloc _,c6.alloc sW _⟩ ⟨W.heap.size,hlt,ku W s f c g p m (.slice pd N N),rfl⟩
 case body=>
  rintro l pre x a' W hl ⟨r,hr'⟩ ⟨⟨v,c1,c2,c3⟩,c4,c5,c6⟩ ⟨Bx,hBx,M,rfl⟩ hlt;have sW:=c6.size;have x1:=x.isLt;have x2:=CH x.val;have x3:=CN x.val;generalize hN:(chunk ys x.val).toNat=N at *;have es:enf ys F (pre++[x])=(x.val:Int)+N:=by rw[EL,x3]
  have em:cellsOf ((pre++[x]).map (fun p=>(p.val:Int)))=cellsOf (pre.map (fun p=>(p.val:Int)))++[.int .i64 (x.val:Int)]:=by simp[cellsOf]
  have hN1:N≤1000:=by omega
  have ep:(pre++[x]).length=pre.length+1:=by simp
  unfold piece at M ⊢;generalize uS (ys.getD x.val 0)=s at *;generalize uF (ys.getD x.val 0)=f at *;generalize uC (ys.getD x.val 0)=c at *;generalize uH (ys.getD x.val 0)=g at *;generalize uP (ys.getD x.val 0)=p at *;generalize uM (ys.getD x.val 0)=m at *;generalize (if N=0 then ad else Option.map (fun y=>y.add x.val) ad)=pd at *;generalize hpost:pre++[x]=post at *;generalize hxv:(x.val:Int)=xv at *;have hx1:0≤xv∧xv≤1000:=by omega
  generalize hcs:cellsOf (pre.map (fun p=>(p.val:Int)))=cs at *;have hpl:pre.length<1000:=by omega
  have cP:=c1.cell;have hfin:∀(v':Value) (w1:World),w1.ownsRow w.heap.size 2 1 v' (pre.length+1) (cs++[.int .i64 xv])→(W.alloc (.cells #[.int .i64 xv] 2)).grownBy w1 v.ownBlock→(v'.ownBlock=v.ownBlock∨v'.ownBlock=some (W.alloc (.cells #[.int .i64 xv] 2)).heap.size)→_:=fun v' w1 q1 q2 q3=>Ea c1 c2 c3 c4 c5 M sW (by omega) (by omega) (by omega) q1 q2 q3
  have HF:Hid _:=hfin;have HE:Hid _:=(⟨es,em,ep⟩:_∧_∧_);clear hfin es em ep M hpost hxv x2 x3 STOPS CH CN E0 bP bE bR hcs hN hI;have SZ:∀W,_:=fun W=>callsIn_wide (n:=8-1-1-1).2 (yD s f c g p m pd N N W)
  gi_wp2_with (first
   |(gi_at_builtin;refine wpListIn_append_own_at _ rfl _ _ 22 rfl w.heap.size 2 i0 (.int .i64 0) 1 8 Tryz.underlying22 hi hz0 hz1 hz2 rfl (by decide) _ _ _ rfl (c2.alloc _) ⟨W.heap.size,0,none⟩ 1 1 [.int .i64 xv] rfl rfl (cell_one_new _ _ _) (by simp[Value.oneCell']) (by unfold maxLen;omega) (by omega) (by simp;omega) ?_
     intro v' w1 hown' hgrow _ hat;obtain⟨g',cap',rfl⟩:=ownsRow_succ hown';obtain⟨q1,q2,q3,q4,q5,q6,q7,q8,q9,q10⟩:=HF.out _ _ hown' hgrow hat;have hc1:=q1.cell;have hf1:=q1.frozen;have hc6:=(q6.alloc (cb s f c g p m (.slice pd N N))).cell;have hf6:=(q6.alloc (cb s f c g p m (.slice pd N N))).frozen;obtain⟨m0,m1,m2,m3,m4,m5,m6,_⟩:=dJ q8;have H2:Hid _:=q2;have H3:Hid _:=q3;have H4:Hid _:=q4;have H5:Hid _:=q5;have H6:Hid _:=q6;have H7:Hid _:=q7;have H9:Hid _:=q9;have H10:Hid _:=q10;clear hown' hgrow hat q1 q2 q3 q4 q5 q6 q7 q8 q9 q10 HF c1 c2 c4 cP;have c5':Boxed W _ _ _:=c5;clear c5)
   |(refine⟨trivial,?_⟩;gi_at_call 78;refine (CallsIn.inRound l (SZ _)).mono ?_;rintro e w' ⟨rfl,rfl⟩))
  obtain⟨es,em,ep⟩:=HE.out;obtain⟨p1,p2,p3,p4,p5,p6,p7⟩:=Eb (o:=cb s f c g p m (.slice pd N N)) (e':=.int .i64 (xv+N)) H2.out H3.out H9.out H6.out H7.out (Nat.le_trans sW H5.out.size) (by omega) (by omega) (by omega);refine⟨(H4.out.trans p5).from _,⟨H5.out.trans p6,p4.trans c5'.symm,fun b cs hb=>p7 b cs (H10.out b cs hb)⟩,⟨_,p1,?_,H9.out⟩,?_,p4,(c6.trans H5.out).trans p6⟩
  ·rw[ep,em];exact p2
  ·rw[es];exact p3
 case done=>
  rintro D zs W hD rfl ⟨⟨v,c1,c2,c3⟩,c4,c5,c6⟩ hK;have cP:=c1.cell;have cE:=c4.cell;have hBD:=c6.trans (belowK_b (w:=w) (Nat.le_refl _) W D _ (.deferred none) (by omega) hK rfl rfl);have RG:gC xs F T=true:=by simp only[gC,dr,Bool.true_and,decide_eq_true_eq];omega
  by_cases hend:enf ys F (plO ys F)=T
  ·rw[if_pos hend]at hWB;have wk:lI xs F T=some ((plO ys F).map (fun p=>(p.val:Int))):=by unfold lI;rw[if_pos RG];exact hWB
   have w1':fK xs F T=true:=by unfold fK;rw[wk];rfl
   have w2':walked xs F T=(plO ys F).map (fun p=>(p.val:Int)):=by unfold walked;rw[wk];rfl
   rw[hend]at cE
   have HO:Hid (rows.Own (W.putObj D (.deferred none)) w.heap.size v ((plO ys F).map (fun p=>(p.val:Int)))):=by
    have:=ownsRow_putObj c2 (.deferred none) hK rfl
    show World.ownsRow _ _ _ _ _ _ _
    rw[List.length_map];exact this
   have HBD:Hid _:=hBD;have HW:Hid (fK xs F T=true∧walked xs F T=(plO ys F).map (fun p=>(p.val:Int))):=⟨w1',w2'⟩;clear hWB wk w1' w2' hBD c1 c2 c3 c4 c5 c6 STOPS CH CN E0 bP bE bR hI RG hend B0;gi_wp2
   refine⟨by simp,.inl ⟨_,_,rfl,run_takeDeferred hK,?_⟩⟩
   exact⟨_,results_tmp2 rfl _ _ _,v,by rw[HW.out.1];rfl,by rw[HW.out.2];exact HO,HBD⟩
  ·rw[if_neg hend]at hWB;have wk:lI xs F T=none:=by unfold lI;rw[if_pos RG];exact hWB
   have w1':fK xs F T=false:=by unfold fK;rw[wk];rfl
   have w2':walked xs F T=[]:=by unfold walked;rw[wk];rfl
   have HBD:Hid _:=hBD;have HW:Hid (fK xs F T=false∧walked xs F T=[]):=⟨w1',w2'⟩;clear hWB wk w1' w2' hBD c1 c2 c3 c4 c5 c6 STOPS CH CN E0 bP bE bR hI RG B0;generalize enf ys F (plO ys F)=en at *;have hend':(en==(T:Int))=false:=by simpa using hend
   gi_wp2
   refine⟨by simp,.inl ⟨_,_,rfl,run_takeDeferred hK,?_⟩⟩
   exact⟨_,results_tmp2 rfl _ _ _,_,by rw[HW.out.1];rfl,by rw[HW.out.2];exact qt _ _,HBD⟩
 case stop=>
  rintro D c pre W _ _ h _;exact h.elim
theorem Ed (w:World) (v:Value) (xs:List Int) (f:Int) (t:Int) (h:au w v xs) (_hl:xs.length≤1048576) (ha:iO xs) (_hf:I64 f) (ht:I64 t) :
    Calls Tryz.prog 127 #[v,.int .i64 f,.int .i64 t] w fun e w'=>∃v',e = .returned (.tuple #[v',.bool (fK xs f t)])∧rows.Own w' w.heap.size v' (walked xs f t)∧Below w.heap.size w w':=by
 cases d:gC xs f t
 ·have wk:lI xs f t=none:=by unfold lI;rw[d];rfl
  have w1:fK xs f t=false:=by unfold fK;rw[wk];rfl
  have w2:walked xs f t=[]:=by unfold walked;rw[wk];rfl
  rw[w1,w2];exact Gg h ht d
 ·have d':=d;simp only[gC,Bool.and_eq_true,decide_eq_true_eq]at d';obtain⟨dr,f0,ft,tl⟩:=d';obtain⟨F,rfl⟩:=Int.eq_ofNat_of_zero_le f0;obtain⟨T,rfl⟩:∃T:Nat,t=T:=Int.eq_ofNat_of_zero_le (by omega)
  have h':=h;obtain⟨a,cap,rfl,_,_,_,_⟩:=h;exact Ec h' ha dr F T (by omega) (by omega)
end Go.Proofs.YtocidankimefpaaGreatDoor.walks
namespace Go.Proofs.YtocidankimefpaaGreatDoor.gr
open Go.RowKit rows heads
theorem Hz:(Tryz.prog.info? 4).map (fun i=>(i.zero,i.size,i.bytes))=some (some (.bool false),1,1):=by kernel_rfl
theorem I0:(Tryz.prog.info? 48).map (fun i=>(i.zero,i.size,i.bytes))=some (some (.slice none 0 0),1,24):=by kernel_rfl
theorem yM (z:Value) (n:Nat):madeCells #[z] n=(List.replicate n z).toArray:=by
 rw[←Array.toList_inj];unfold madeCells;rw[Array.toList_map,Array.toList_range];induction n with
 |zero=>rfl
 |succ n ih=>
  rw[List.range_succ,List.map_append,ih,List.replicate_succ'];simp[Nat.mod_one]
theorem jP {w:World} {o x:Obj} {k:Nat} (h:w.heap[k]? = some x):(w.alloc o).heap[k]? = some x:=(Below.heap_alloc w o k (Array.getElem?_eq_some_iff.1 h).1).trans h
theorem lj {X:World} {o:Obj} {k:Nat} (h:k=X.heap.size):(X.alloc o).heap[k]? = some o:=by subst h;exact heap_alloc_new _ _
theorem yN {α:Type} (n q:Nat) (x:α):(List.replicate n x).getD q x=x:=by
 rw[List.getD_eq_getElem?_getD,List.getElem?_replicate];split<;>rfl
def mkF (n:Nat):Obj:=.cells (List.replicate n (Value.bool false)).toArray 4
def mkW (n:Nat):Obj:=.cells (List.replicate n (Value.slice none 0 0)).toArray 48
theorem Gh (n:Nat) (h:n≤1048576) (W:World):(Instr.makeSlice 152 (.int .i64 (n:Int)) (.int .i64 (n:Int))).run Tryz.prog W = .ok (.slice (some ⟨W.heap.size,0,none⟩) n n) (W.alloc (mkF n)):=by
 rw[run_make_row' (P:=Tryz.prog) 152 4 (.bool false) 1 Tryz.underlying152 Hz rfl .i64 .i64 n (by omega) (by omega) W,yM];rfl
theorem Gi (n:Nat) (h:n≤1048576) (W:World):(Instr.makeSlice 185 (.int .i64 (n:Int)) (.int .i64 (n:Int))).run Tryz.prog W = .ok (.slice (some ⟨W.heap.size,0,none⟩) n n) (W.alloc (mkW n)):=by
 rw[run_make_row' (P:=Tryz.prog) 185 48 (.slice none 0 0) 24 Tryz.underlying185 I0 rfl .i64 .i64 n (by omega) (by omega) W,yM];rfl
set_option maxHeartbeats 8000000 in
theorem nE {w:World} {o r m:Value} {ms:List MO} {G:Gr} (h:gy w o r m ms G) (hok:gOk G=true) :
    Calls Tryz.prog 98 #[gv o r m G.next G.seed] w fun e w'=>∃(Bi:Nat) (is:List Bool),e = .returned (.slice (some ⟨Bi,0,none⟩) ms.length ms.length)∧w'.heap[Bi]? = some (.cells (is.map Value.bool).toArray 4 (0,0))∧w.heap.size≤Bi∧is.length=ms.length∧(∀p,is.getD p false=true↔Rch G p)∧Below w.heap.size w w':=by
 have hlen:ms.length=G.objs.length:=by rw[←h.1];simp
 have hn200:ms.length≤500:=by rw[hlen];exact (gu hok).1
 have hr6:G.roots.length=6:=(gu hok).2.1;have hm40:G.a7.length≤40:=(gu hok).2.2.1;obtain⟨a1,n1,c1,a2,n2,c2,a3,n3,c3,e1,e2,e3⟩:=bq h;subst e1 e2 e3;obtain⟨ao,co,eo,_⟩:=h.2.1.1;injection eo with e1 e2 e3
 subst e1 e2 e3;have mk1:=Gh ms.length (by omega);have mk2:=Gi ms.length (by omega);obtain⟨W1,hW1⟩:∃W1,W1=(((((w.alloc (gb (.slice a1 ms.length c1) (.slice a2 n2 c2) (.slice a3 n3 c3) G.next G.seed)).alloc (mkF ms.length)).alloc (.cells #[.slice (some ⟨w.heap.size+1,0,none⟩) ms.length ms.length] 152)).alloc (mkW ms.length)).alloc (.cells #[.slice (some ⟨w.heap.size+3,0,none⟩) ms.length ms.length] 185)).alloc (.cells #[FW w.heap.size (w.heap.size+2) (w.heap.size+5) (w.heap.size+4)] 186):=⟨_,rfl⟩
 have sW1:W1.heap.size=w.heap.size+6:=by rw[hW1];simp
 have B1:Below w.heap.size w W1:=by
  rw[hW1];exact ((((((Below.refl _ w).alloc (Nat.le_refl _) _).alloc (by simp) _).alloc (by simp;omega) _).alloc (by simp;omega) _).alloc (by simp;omega) _).alloc (by simp;omega) _
 have kg:W1.heap[w.heap.size]? = some (gb (.slice a1 ms.length c1) (.slice a2 n2 c2) (.slice a3 n3 c3) G.next G.seed):=by
  rw[hW1];exact jP (jP (jP (jP (jP (lj rfl)))))
 have kbi:W1.heap[w.heap.size+1]? = some (mkF ms.length):=by
  rw[hW1];exact jP (jP (jP (jP (lj (by simp)))))
 have kpi:W1.heap[w.heap.size+2]? = some (.cells #[.slice (some ⟨w.heap.size+1,0,none⟩) ms.length ms.length] 152):=by
  rw[hW1];exact jP (jP (jP (lj (by simp))))
 have kbw:W1.heap[w.heap.size+3]? = some (mkW ms.length):=by
  rw[hW1];exact jP (jP (lj (by simp)))
 have kpw:W1.heap[w.heap.size+4]? = some (.cells #[.slice (some ⟨w.heap.size+3,0,none⟩) ms.length ms.length] 185):=by
  rw[hW1];exact jP (lj (by simp))
 have kpc:W1.heap[w.heap.size+5]? = some (.cells #[FW w.heap.size (w.heap.size+2) (w.heap.size+5) (w.heap.size+4)] 186):=by
  rw[hW1];exact lj (by simp)
 have HBL:Hid (∀W,Ch [w.heap.size+1,w.heap.size+3] W1 W→Below w.heap.size w W):=fun W hW=>B1.trans (bn hW (by omega) (fun k hk=>by simp at hk;omega))
 have HBK:Hid (∀W,Ch [w.heap.size+1,w.heap.size+3] W1 W→∀k,k<w.heap.size+6→k≠w.heap.size+1→k≠w.heap.size+3→W.heap[k]? = W1.heap[k]?):=fun W hW k h1 h2 h3=>hW.block k (by omega) (by simp;omega)
 have HG5:Hid (∀W,Ch [w.heap.size+1,w.heap.size+3] W1 W→fh W w.heap.size 50 (.slice a1 ms.length c1) (.slice a2 n2 c2) (.slice a3 n3 c3) (.int .i64 G.next) (.int .i64 G.seed)):=fun W hW=>(HBK.out W hW w.heap.size (by omega) (by omega) (by omega)).trans kg
 have HE:Hid (∀W,Ch [w.heap.size+1,w.heap.size+3] W1 W→Env G a1 c1 ms w.heap.size (w.heap.size+2) (w.heap.size+5) (w.heap.size+4) (w.heap.size+1) (w.heap.size+3) W):=fun W hW=>
  ⟨(ak (HG5.out W hW)).1,
   by simp[World.cell?, (HBK.out W hW (w.heap.size+2) (by omega) (by omega) (by omega)).trans kpi],
   by simp[World.cell?, (HBK.out W hW (w.heap.size+5) (by omega) (by omega) (by omega)).trans kpc],
   by simp[World.cell?, (HBK.out W hW (w.heap.size+4) (by omega) (by omega) (by omega)).trans kpw],
   jT h.2.1 (HBL.out W hW)⟩
 have RS1:RS W1 (w.heap.size+1) (w.heap.size+3) ms.length W1 (List.replicate ms.length mJ) (St.none ms.length):=by
  refine⟨Ch.refl _ _,by simp[St.none],by simp[St.none],by simp,?_,kbw,fun q hq => ?_,fun q q' hq hq' _ k hk => ?_⟩
  ·rw[kbi];simp[mkF,St.none]
  ·rw[yN,yB];exact kK _ _
  ·rw[yN]at hk;simp[blk,Value.ownBlock]at hk
 have hleft:(St.none ms.length).left≤ms.length:=by unfold St.left St.none;exact Nat.le_trans List.count_le_length (by simp)
 have hrefs:∀ {W vs s v L},RS W1 (w.heap.size+1) (w.heap.size+3) ms.length W vs s→cM w v L→∀W',Ch (yW (w.heap.size+1) (w.heap.size+3) ms.length vs s) W W'→cM W' v L:=fun {W vs s v L} hR hv W' hW'=>aU hv (HBL.out W' (jZ hR.ch hW' (Fv hR)))
 have CA:=zP hok h.1 (Bi:=w.heap.size+1) (Bw:=w.heap.size+3) (by omega) (by omega) (by omega) HE ms.length;have CL:=CA W1 _ _ (.slice a2 n2 c2) G.roots hleft RS1 (hrefs RS1 h.2.2.1) (by omega) (fun q=>by rw[yB];simp;omega);have HCA:Hid (∀W vs s,s.left≤ms.length→RS W1 (w.heap.size+1) (w.heap.size+3) ms.length W vs s→(∀q,(s.w q).length+20*s.left≤10000)→_):=fun W vs s h1 h2 h3=>CA W vs s (.slice a3 n3 c3) G.a7 h1 h2 (hrefs h2 h.2.2.2) (by omega) h3
 have HLF:Hid _:=hleft;have HBD0:Hid (∀q,((St.none ms.length).w q).length+20*(St.none ms.length).left≤10000):=fun q=>by rw[yB];simp;omega
 have E1:=HE.out W1 (Ch.refl _ _);have zc:=E1.c;have zi:=E1.i;obtain⟨z0,z1,z2,z3,z4,_⟩:=ak (HG5.out W1 (Ch.refl _ _));have HW1:Hid _:=hW1;clear h hok hlen hr6 hm40 B1 kg kbi kpi kbw kpw kpc RS1 hleft hrefs CA E1;generalize hgn:G.next=gn at *;generalize hgs:G.seed=gs at *;clear hgn hgs;generalize hn:ms.length=n at *;clear hW1;go_enter Tryz.func98,Tryz.ntmps98;go_wp2_with fail;simp only[Nat.add_assoc,Nat.reduceAdd];rw[←HW1.out];refine CL.mono ?_;rintro e w2 ⟨rfl,vs2,s2,run2⟩;have CL2:=HCA.out w2 vs2 s2 (Nat.le_trans run2.lf HLF.out) run2.rs (run2.bd 10000 HBD0.out);have E2:=HE.out w2 run2.rs.ch;have yc:=E2.c;obtain⟨y0,y1,y2,y3,y4,_⟩:=ak (HG5.out w2 run2.rs.ch);have HR2:Hid _:=run2;clear CL HCA HLF HBD0 run2 E2 zc zi z0 z1 z2 z3 z4 HBK HW1;go_wp2_with fail;refine CL2.mono ?_;rintro e w3 ⟨rfl,vs3,s3,run3⟩;have E3:=HE.out w3 run3.rs.ch;have xi:=E3.i;have HB3:Hid _:=HBL.out w3 run3.rs.ch;have HI3:Hid _:=run3.rs.hi;have HL3:Hid _:=run3.rs.li;have RUN:=HR2.out.trans run3;have HRC:Hid _:=DI RUN.st (RUN.sd (zG _ _) (fun r hr hl=>Rch.root r hr hl));clear CL2 E3 RUN run3 HR2 yc y0 y1 y2 y3 y4;go_wp2;go_ret;exact⟨w.heap.size+1,s3.is,rfl,HI3.out,by omega,HL3.out,HRC.out,HB3.out⟩
def mZ (t:TypeId) (w:World) (base:Nat) (v:Value) (xs:List Int):Prop:=w.ownsRow base t 1 v xs.length (cellsOf xs)
theorem sy {t:TypeId} {w:World} {base:Nat} {v:Value} {xs:List Int} (h:mZ t w base v xs):∃a c,v = .slice a xs.length c:=by
 obtain⟨h0,⟨h1,h2⟩|⟨g,cap,cur,h1,_⟩⟩:=h
 ·exact⟨none,0,by rw[h1,h2]⟩
 ·exact⟨_,_,h1⟩
theorem zU {t:TypeId} {W:World} {base:Nat} (hb:base≤W.heap.size):mZ t (W.alloc (.cells #[] t)) base (.slice (some ⟨W.heap.size,0,none⟩) 0 0) []:=
 ⟨rfl,.inr ⟨W.heap.size,0,#[],rfl,hb,heap_alloc_new W _,Nat.le_refl _,by decide,rfl,rfl⟩⟩
theorem xB (xs ys:List Int):cellsOf (xs++ys)=cellsOf xs++cellsOf ys:=by simp[cellsOf]
theorem Gj {t:TypeId} {W w1:World} {base:Nat} {v v':Value} {xs:List Int} {x:Int} {tmp:Obj} (h:mZ t W base v xs)
    (hown:w1.ownsRow base t 1 v' (xs.length+1) (cellsOf xs++[.int .i64 x])) (hg:(W.alloc tmp).grownBy w1 v.ownBlock) (hat:v'.ownBlock=v.ownBlock∨v'.ownBlock=some (W.alloc tmp).heap.size) :
    mZ t w1 base v' (xs++[x])∧Ch (blk v) W w1∧∀k ∈ blk v',k ∈ blk v∨W.heap.size≤k:=by
 refine⟨?_,(bu ((Below.refl _ _).alloc (Nat.le_refl _) _)).trans (cJ hg),fun k hk => ?_⟩
 ·unfold mZ;rw[List.length_append,xB];exact hown
 ·unfold blk at hk ⊢;rcases hat with e|e
  ·rw[e]at hk;exact .inl hk
  ·rw[e]at hk;simp at hk;exact .inr (by omega)
theorem Gl (W:World) (t:TypeId) (x:Int):∀j u,[Value.int .i64 x][j]? = some u→(W.alloc (.cells #[.int .i64 x] t)).cell? ((⟨W.heap.size,0,none⟩:Addr).add j)=some u:=by
 intro j u h;match j with
 |0=>
  simp at h;subst h;simp[Addr.add]
 |j+1=>simp at h
theorem Ee {w w':World} {base P:Nat} {G:Gr} {S:List Nat} (h:cU w base P G S) (hb:Below w.heap.size w w'):cU w' base P G S:=by
 obtain⟨o,r,m,ms,T,O,N,hb',HS⟩:=h;exact⟨o,r,m,ms,aJ T hb,cI O hb,N,hb',HS⟩
theorem qk (G:Gr) {ps:List Nat} {k:Nat} (hk:k<ps.length):dH G (ps.take (k+1))=eK (dH G (ps.take k)) (ps.getD k 0):=by
 unfold dH;rw[List.take_add_one,List.foldl_append,List.getElem?_eq_getElem hk,List.getD_eq_getElem?_getD,List.getElem?_eq_getElem hk];rfl
theorem nF:∀(ps:List Nat) (G:Gr),(dH G ps).objs.length=G.objs.length
 | [],_=>rfl
 |p :: ps,G=>(nF ps (eK G p)).trans (iX G p)
theorem yO {S:List Nat} {w w':World} {b k:Nat} {v:Value} (c:Ch S w w') (hn:b ∉ S) (h:w.cell? ⟨b,k,none⟩=some v):w'.cell? ⟨b,k,none⟩=some v:=by
 have:=c.block b (lD h) hn
 unfold World.cell? at h ⊢;simp only at h ⊢;rw[this];exact h
theorem vf {G:Gr} {ps:List Nat} (h:IsG G ps) (hn:ps≠[]):eph (dH G ps).objs<eph G.objs:=by
 cases ps with
 |nil=>exact absurd rfl hn
 |cons p ps=>
  have hg:Grv G p:=(h.2 p).1 (by simp);exact Nat.lt_of_le_of_lt (nN ps (eK G p)) (Ft (jY hg) hg.2.1)
theorem ql {G R:Gr} {ps:List Nat} (h:fe G R) (hp:IsG G ps) (hn:ps≠[]):fe (dH G ps) R:=by
 obtain⟨L,hL⟩:=h;match L,hL with
 | [],hL=>exact absurd (fT hp hL.1) hn
 |qs :: L,hL=>
  have e:=fT hp hL.2.1;subst e;exact⟨L,hL.2.2⟩
theorem vg {w:World} {base P:Nat} {G:Gr} {S:List Nat} (H:cU w base P G S) {p:Nat} (hi:p<G.objs.length) {q n c:Nat} (hq:w.cell? ⟨P,0,none⟩=some (.slice (some ⟨q,0,none⟩) n c)) :
    (∃u,w.cell? ⟨q,p*5+2,none⟩=some (.int .i64 u))∧w.frozen? ⟨q,p*5+2,none⟩=false∧P≠q∧q ∉ S∧cU (w.setCell ⟨q,p*5+2,none⟩ (.int .i64 0)) base P { G with objs:=aZ G.objs p } S∧Below base w (w.setCell ⟨q,p*5+2,none⟩ (.int .i64 0)):=by
 obtain⟨q0,c0,z0,_,zu,fz,nP,_,nS,HA,B⟩:=qM H hi;rw[hq]at z0;injection z0 with z0
 injection z0 with z0
 injection z0 with z0
 injection z0 with z0
 subst z0;exact⟨zu,fz,nP,nS,HA,B⟩
theorem sC:∀(ps:List Nat) (G:Gr),(dH G ps).objs.map Ob.id=G.objs.map Ob.id
 | [],_=>rfl
 |p :: ps,G=>(sC ps (eK G p)).trans (qJ G.objs p)
theorem qm {os os':List Ob} (h:os.map Ob.id=os'.map Ob.id) (p:Nat):(os.getD p obD).id=(os'.getD p obD).id:=by
 have h1:∀l:List Ob,(l.getD p obD).id=(l.map Ob.id).getD p obD.id:=fun l=>by
  rw[List.getD_eq_getElem?_getD,List.getD_eq_getElem?_getD,List.getElem?_map];cases l[p]? <;> rfl
 rw[h1,h1,h]
def iS (xs:List Int) (l:List Rf):Prop:=∀r ∈ l,r.1=2→r.2 ∈ xs
theorem nG {xs ys:List Int} {l:List Rf} (h:iS xs l) (hs:∀a ∈ xs,a ∈ ys):iS ys l:=fun r hr h2=>hs _ (h r hr h2)
structure Good (G:Gr) (xs:List Int):Prop where
 rise:eN xs
 sound:∀a ∈ xs,∃p,Rch G p∧(G.objs.getD p obD).id=a
theorem Ef (G:Gr):Good G []:=⟨List.Pairwise.nil,fun a h=>absurd h (by simp)⟩
theorem pB {G:Gr} {xs:List Int} (h:Good G xs) {p:Nat} (hp:Rch G p) {n:Int} (hn:(G.objs.getD p obD).id=n):Good G (putI n xs):=
 ⟨je h.rise,fun a ha=>by
  rcases dP.1 ha with e|e
  ·rw[e];exact⟨p,hp,hn⟩
  ·exact h.sound a e⟩
theorem Eg {G:Gr} (hok:gOk G=true) {xs:List Int} (h:Good G xs):xs.length≤100000:=by
 have hn:=(gu hok).2.2.2
 have:=si (N:=G.next) (m:=0) h.rise (fun x hx=>by
  obtain⟨p,hp,rfl⟩:=h.sound x hx;have hlt:=rX hp;obtain⟨h1,h2,_⟩:=lz ((jd hok).ob p hlt)
  have h3:0≤jz G.objs p:=by
   match p with
   |0=>exact Int.le_refl _
   |p+1=>
    show 0≤(G.objs.getD p obD).id
    have hpos:∀j,j<G.objs.length→0<(G.objs.getD j obD).id:=fun j=>by
     induction j with
     |zero=>intro hj;have:=(lz ((jd hok).ob 0 hj)).1;exact this
     |succ j ih=>
      intro hj;have h5:=(lz ((jd hok).ob (j+1) hj)).1;have h6:=ih (by omega);have h7:jz G.objs (j+1)=(G.objs.getD j obD).id:=rfl;omega
    have:=hpos p (by omega)
    omega
  omega)
 omega
theorem gX {G:Gr} (hok:gOk G=true) {r:Rf} (hr:r ∈ G.roots++G.a7∨∃p,p<G.objs.length∧r ∈ (G.objs.getD p obD).slots) (h2:r.1=2):fG G.objs r=true∧(G.objs.getD (cV G.objs r) obD).id=r.2:=by
 have R:=jd hok;refine Be ?_ h2;rcases hr with h|⟨p,hp,h⟩
 ·rcases List.mem_append.1 h with h|h
  ·obtain⟨i,hi,rfl⟩:=List.getElem_of_mem h;have h6:=(gu hok).2.1;have:=R.root i (by omega)
   rw[List.getD_eq_getElem?_getD,List.getElem?_eq_getElem hi]at this;exact this
  ·obtain⟨i,hi,rfl⟩:=List.getElem_of_mem h;have:=(R.mo i hi).2
   rw[List.getD_eq_getElem?_getD,List.getElem?_eq_getElem hi]at this;exact this
 ·obtain⟨i,hi,rfl⟩:=List.getElem_of_mem h;have:=R.sl p hp i hi
  rw[List.getD_eq_getElem?_getD,List.getElem?_eq_getElem hi]at this;exact this
theorem jQ {G:Gr} (hG:gOk G=true) {p:Nat} (hp:p<G.objs.length) (hf:(G.objs.getD p obD).fmt=2):0<(G.objs.getD p obD).slots.length∧(G.objs.getD p obD).slots.getD 0 bU ∈ (G.objs.getD p obD).slots:=by
 have h:=(lz ((jd hG).ob p hp)).2.2.2;rw[hf]at h;simp only[hok]at h;rw[if_neg (by decide)]at h;simp only[Bool.and_eq_true,Bool.or_eq_true,decide_eq_true_eq,beq_iff_eq]at h;have h1:0<(G.objs.getD p obD).slots.length:=by omega
 clear h hf;revert h1
 generalize (G.objs.getD p obD).slots=sl;intro h1;refine⟨h1,?_⟩
 rw[List.getD_eq_getElem?_getD,List.getElem?_eq_getElem h1];exact List.getElem_mem h1
theorem Ca {o:Ob} {r:Rf} (h:r ∈ onw o):r ∈ o.slots:=by
 unfold onw at h;split at h
 ·exact h
 ·split at h
  ·exact List.mem_of_mem_drop h
  ·simp at h
def qp (G:Gr) (xs:List Int) (k:Nat):Prop:=(G.objs.getD k obD).id ∈ xs→(awt G.objs (G.objs.getD k obD)=none→iS xs (onw (G.objs.getD k obD)))∧∀q,awt G.objs (G.objs.getD k obD)=some q→(G.objs.getD q obD).id ∈ xs→iS xs (onw (G.objs.getD k obD))
theorem Eh {G:Gr} (hG:gOk G=true) {xs:List Int} (h:Good G xs) (hr:iS xs (G.roots++G.a7)) (hd:∀k,k<G.objs.length→qp G xs k):IsR G xs:=by
 have all:∀p,Rch G p→p<G.objs.length∧(G.objs.getD p obD).id ∈ xs:=fun p hp=>hp (fun p=>p<G.objs.length∧(G.objs.getD p obD).id ∈ xs) (by
  refine⟨fun r h1 hl=>⟨gT hl,?_⟩,fun p hp ha r h1 hl=>⟨gT hl,?_⟩,fun p q hp ha hq r h1 hl=>⟨gT hl,?_⟩⟩
  ·rw[(gX hG (.inl h1) (jJ hl)).2];exact hr r h1 (jJ hl)
  ·rw[(gX hG (.inr ⟨p,hp.1,Ca h1⟩) (jJ hl)).2];exact (hd p hp.1 hp.2).1 ha r h1 (jJ hl)
  ·rw[(gX hG (.inr ⟨p,hp.1,Ca h1⟩) (jJ hl)).2];exact (hd p hp.1 hp.2).2 q ha hq.2 r h1 (jJ hl))
 obtain⟨ys,hy⟩:=Fg G
 have e:xs=ys:=kr h.rise (zH hG hy) fun a=>by
  rw[Bh hy];exact⟨h.sound a,fun ⟨p,hp,e⟩=>by rw[←e];exact (all p hp).2⟩
 rw[e];exact hy
theorem pC {os:List Ob} (h:zK os) {p q:Nat} (hp:p<os.length) (hq:q<os.length) (e:(os.getD p obD).id=(os.getD q obD).id):p=q:=by
 rcases Nat.lt_trichotomy p q with h1|h1|h1
 ·have:=h p q h1 hq;omega
 ·exact h1
 ·have:=h q p h1 hp;omega
def Cb (o:Ob) (ys:List Int) (F:Nat):Prop:=(o.fmt=1∧F=o.slots.length)∨(o.fmt=0∧F=0)∨(o.fmt=2∧F=1∧¬((o.slots.getD 0 bU).1=2∧(o.slots.getD 0 bU).2 ∉ ys))∨(o.fmt=2∧F=o.slots.length∧(o.slots.getD 0 bU).1=2∧(o.slots.getD 0 bU).2 ∉ ys)
theorem Gm {G:Gr} (hG:gOk G=true) {k:Nat} (hk:k<G.objs.length) {ys:List Int} (hg:Good G ys) (hin:(G.objs.getD k obD).id ∈ ys) {F:Nat} (hF:Cb (G.objs.getD k obD) ys F) :
    F≤(G.objs.getD k obD).slots.length∧(∀r ∈ (G.objs.getD k obD).slots.drop F,r.1=2→∃p,Rch G p∧(G.objs.getD p obD).id=r.2)∧(iS ys ((G.objs.getD k obD).slots.drop F)→qp G ys k):=by
 have hR:Rch G k:=by
  obtain⟨p,hp,e⟩:=hg.sound _ hin;rw[pC (fY hG) (rX hp) hk e]at hp;exact hp
 have ref:∀r ∈ (G.objs.getD k obD).slots,r.1=2→fG G.objs r=true∧(G.objs.getD (cV G.objs r) obD).id=r.2:=fun r hr h2=>gX hG (.inr ⟨k,hk,hr⟩) h2
 rcases hF with ⟨hf,rfl⟩|⟨hf,rfl⟩|⟨hf,rfl,hn⟩|⟨hf,rfl,h2,hn⟩
 ·have eo:onw (G.objs.getD k obD)=[]:=by unfold onw;rw[if_neg (by omega),if_neg (by omega)]
  refine⟨Nat.le_refl _,fun r hr=>by simp at hr,fun _ _=>⟨fun _=>by rw[eo];exact fun r hr=>absurd hr (by simp),fun q _ _=>by rw[eo];exact fun r hr=>absurd hr (by simp)⟩⟩
 ·have eo:onw (G.objs.getD k obD)=(G.objs.getD k obD).slots:=by unfold onw;rw[if_pos hf]
  have ea:awt G.objs (G.objs.getD k obD)=none:=by unfold awt;rw[if_neg (by omega)]
  refine⟨Nat.zero_le _,fun r hr h2 => ?_,fun hgo _=>⟨fun _=>by rw[eo];exact hgo,fun q e _=>(by rw[ea]at e;cases e)⟩⟩
  rw[List.drop_zero]at hr;exact⟨_,Rch.on0 k hR ea r (by rw[eo];exact hr) (ref r hr h2).1,(ref r hr h2).2⟩
 ·have eo:onw (G.objs.getD k obD)=(G.objs.getD k obD).slots.drop 1:=by unfold onw;rw[if_neg (by omega),if_pos hf]
  obtain⟨h0,hm⟩:=jQ hG hk hf;refine⟨h0,fun r hr h2 => ?_,fun hgo _=>⟨fun _=>by rw[eo];exact hgo,fun q _ _=>by rw[eo];exact hgo⟩⟩
  have hr':=List.mem_of_mem_drop hr;have hl:=ref r hr' h2;cases ha:awt G.objs (G.objs.getD k obD) with
  |none=>exact⟨_,Rch.on0 k hR ha r (by rw[eo];exact hr) hl.1,hl.2⟩
  |some q=>
   have hq:Rch G q:=by
    unfold awt at ha;split at ha
    ·rename_i hc
     injection ha with ha
     have h22:=jJ hc.2
     have hin2:((G.objs.getD k obD).slots.getD 0 bU).2 ∈ ys:=by
      apply Classical.byContradiction
      intro hno;exact hn ⟨h22,hno⟩
     obtain⟨p,hp,e⟩:=hg.sound _ hin2;have e2:=(ref _ hm h22).2;rw[ha]at e2;have hqlt:q<G.objs.length:=by rw[←ha];exact gT hc.2
     rw[pC (fY hG) (rX hp) hqlt (e.trans e2.symm)]at hp;exact hp
    ·cases ha
   exact⟨_,Rch.on1 k q hR ha hq r (by rw[eo];exact hr) hl.1,hl.2⟩
 ·obtain⟨h0,hm⟩:=jQ hG hk hf;have hl:=ref _ hm h2;have ea:awt G.objs (G.objs.getD k obD)=some (cV G.objs ((G.objs.getD k obD).slots.getD 0 bU)):=by unfold awt;rw[if_pos ⟨hf,hl.1⟩]
  refine⟨Nat.le_refl _,fun r hr=>by simp at hr,fun _ _=>⟨fun e=>(by rw[ea]at e;cases e),fun q e hq => ?_⟩⟩
  rw[ea]at e;injection e with e
  rw[←e,hl.2]at hq;exact absurd hq hn
theorem zV {G:Gr} {xs ys:List Int} (h:IsR G xs) (h':IsR G ys):xs=ys:=by
 obtain⟨f,hf,rfl⟩:=h';exact Hi h hf
def orI (u v:Int):Int:=if u=0 then v else u
set_option maxHeartbeats 2000000 in
theorem Gn {w:World} {b:Nat} {u v:Int} (h0:w.cell? ⟨b,0,none⟩=some (.int .i64 u)) (h1:w.cell? ⟨b,1,none⟩=some (.int .i64 v)) :
    Calls Tryz.prog 102 #[.slice (some ⟨b,0,none⟩) 2 2] w fun e w'=>e = .returned (.int .i64 (orI u v))∧w'=w:=by
 by_cases hu:u=0
 ·subst hu;have ER:Hid (orI 0 v=v):=rfl;by_cases hv:v=0
  ·subst hv;go_enter Tryz.func102,Tryz.ntmps102;go_wp2_with fail;refine wp_loop_rounds 3 ?_;rw[rounds_succ];go_wp2;rw[rounds_succ];go_wp2;rw[rounds_succ];go_wp2;go_ret;exact⟨rfl,rfl⟩
  ·have hv':(v != 0)=true:=by simpa using hv
   go_enter Tryz.func102,Tryz.ntmps102;go_wp2_with fail;refine wp_loop_rounds 2 ?_;rw[rounds_succ];go_wp2;rw[rounds_succ];go_wp2;go_ret;exact⟨rfl,rfl⟩
 ·have hu':(u != 0)=true:=by simpa using hu
  have ER:Hid (orI u v=u):=by show _=_;unfold orI;rw[if_neg hu]
  go_enter Tryz.func102,Tryz.ntmps102;go_wp2_with fail;refine wp_loop_rounds 1 ?_;rw[rounds_succ];go_wp2;go_ret;exact⟨by rw[ER.out];rfl,rfl⟩
end Go.Proofs.YtocidankimefpaaGreatDoor.gr
