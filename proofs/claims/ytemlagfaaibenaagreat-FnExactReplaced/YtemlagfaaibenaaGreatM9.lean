/-
  What the program's Walk answers. Lists of chunks that know their places, in memory. Chapter 9 as the program has it: the chunks of a piece of a row, with their places.
-/
import Derived.Test.YtemlagfaaibenaaGreatM8
import Derived.Test.YtemlagfaaibenaaGreatM2
import Derived.Maps.OwnIn
import Derived.Test.YtemlagfaaibenaaGreatM4
import Derived.Test.YtemlagfaaibenaaGreatM7
import Derived.Maps.AppendAt
import Derived.Test.YtemlagfaaibenaaGreatM5
namespace Go.Proofs.YtemlagfaaibenaaGreat.walks
open Go.RowKit Go.Shelf rows heads words
theorem walk_no {w:World} {v:Value} {xs:List Int} {f t:Int} (h:IntsAt w v xs) (ht:I64 t) (d:rangeOk xs f t=false) :
    Calls Tryz.prog 125 #[v,.int .i64 f,.int .i64 t] w fun e w'=>∃v',e = .returned (.tuple #[v',.bool false])∧rows.Own w' w.heap.size v' []∧Below w.heap.size w w':=by
 have h':=h
 obtain⟨a,cap,rfl,hlc,hcm,_,hc⟩:=h
 clear hc
 cases dc:cutOk xs.length 0 t
 ·cases dr:rowOk xs
  all_goals
   go_enter Tryz.func125,Tryz.ntmps125
   go_wp2_with fail
   refine (cut_no hlc hcm 0 t ⟨by decide,by decide⟩ ht dc).mono ?_
   rintro e w1 ⟨rfl,hw1⟩
   rw[hw1]
   clear hw1 w1
   go_wp2_with (go_at_call 124;refine (isRow_any h').mono ?_;rintro e w2 ⟨rfl,hw2⟩;rw[hw2];clear hw2 w2)
   go_ret2
   exact⟨_,rfl,own_nil _ _,Below.refl _ _⟩
 ·obtain⟨_,t0,t1⟩:=cutOk_true dc
  obtain⟨T,rfl⟩:=Int.eq_ofNat_of_zero_le t0
  have hp:∃ad,piece a 0 T = .slice ad T T:=⟨_,rfl⟩
  obtain⟨ad,hp⟩:=hp
  cases dr:rowOk xs
  ·go_enter Tryz.func125,Tryz.ntmps125
   go_wp2_with fail
   refine (cut_yes hlc hcm 0 T (by omega)).mono ?_
   rintro e w1 ⟨rfl,hw1⟩
   rw[hw1,hp]
   clear hw1 w1 hp
   go_wp2_with (go_at_call 124;refine (isRow_any h').mono ?_;rintro e w2 ⟨rfl,hw2⟩;rw[hw2];clear hw2 w2)
   go_ret2
   exact⟨_,rfl,own_nil _ _,Below.refl _ _⟩
  ·by_cases h1:f<0
   ·go_enter Tryz.func125,Tryz.ntmps125
    go_wp2_with fail
    refine (cut_yes hlc hcm 0 T (by omega)).mono ?_
    rintro e w1 ⟨rfl,hw1⟩
    rw[hw1,hp]
    clear hw1 w1 hp
    go_wp2_with (go_at_call 124;refine (isRow_any h').mono ?_;rintro e w2 ⟨rfl,hw2⟩;rw[hw2];clear hw2 w2)
    go_ret2
    exact⟨_,rfl,own_nil _ _,Below.refl _ _⟩
   ·have h2:f > (T:Int):=by
      simp only[rangeOk,dr,Bool.true_and,decide_eq_false_iff_not]at d
      omega
    go_enter Tryz.func125,Tryz.ntmps125
    go_wp2_with fail
    refine (cut_yes hlc hcm 0 T (by omega)).mono ?_
    rintro e w1 ⟨rfl,hw1⟩
    rw[hw1,hp]
    clear hw1 w1 hp
    go_wp2_with (go_at_call 124;refine (isRow_any h').mono ?_;rintro e w2 ⟨rfl,hw2⟩;rw[hw2];clear hw2 w2)
    go_ret2
    exact⟨_,rfl,own_nil _ _,Below.refl _ _⟩
theorem piece_ints {w:World} {a:Option Addr} {cap:Nat} {xs:List Int} (h:IntsAt w (.slice a xs.length cap) xs) (hl:xs.length≤1048576) (T:Nat) (hT:T≤xs.length) :
    ∃ad,piece a 0 T = .slice ad T T∧IntsAt w (.slice ad (xs.take T).length T) (xs.take T):=by
 obtain⟨a',cap',e,hlc,hcm,hnil,hc⟩:=h
 injection e with e1 e2 e3
 subst e1 e3
 have el:(xs.take T).length=T:=by simp;omega
 rw[el]
 by_cases h0:T=0
 ·subst h0
  exact⟨a,piece_none _ _,a,0,by simp,by simp,by decide,fun _=>rfl,fun h=>by simp at h⟩
 ·obtain⟨b,off,rfl,hb,hcc⟩:=hc (by omega)
  refine⟨_,piece_at b off 0 T (by omega),_,T,by rw[el],by omega,by unfold maxLen;omega,fun h=>by simp at h,fun _=>⟨b,off+0,rfl,hb,fun k hk => ?_⟩⟩
  rw[el]at hk
  have:=hcc k (by omega)
  rw[Nat.add_zero,this]
  simp[List.getD_eq_getElem?_getD,hk]
theorem chunk_not_row {W:World} {b:Nat} {cs:Array Value} (h:W.heap[b]? = some (Obj.cells cs 44 (0,0))) {base k:Nat} {v:Value} {xs:List Value} (hr:W.ownsRow base 2 1 v k xs):some b≠v.ownBlock:=by
 rcases hr.2 with ⟨rfl,_⟩|⟨g,cap,cur,rfl,_,hgb,_⟩
 ·simp[Value.ownBlock]
 ·intro e'
  obtain rfl:b=g:=by simpa [Value.ownBlock] using e'
  have:=h.symm.trans hgb
  simp at this
theorem app_step {W w1:World} {n₀ P E Br Bx k m:Nat} {v v' e r u:Value} {xs ys:List Value} {tmp:Obj} {s f c h:Int} {p q:Bool}
    (bP:Boxed W P 22 v) (hrow:W.ownsRow n₀ 2 1 v k xs) (hvE:v.ownBlock≠some E) (bE:Boxed W E 2 e) (bR:Boxed W Br 22 r) (M:ChAt W Bx s f c h p q u)
    (hn₀:n₀≤W.heap.size) (hP:n₀≤P) (hPE:E≠P) (hPR:Br≠P)
    (hown':w1.ownsRow n₀ 2 1 v' m ys) (hgrow:(W.alloc tmp).grownBy w1 v.ownBlock) (hat:v'.ownBlock=v.ownBlock∨v'.ownBlock=some (W.alloc tmp).heap.size) :
    Boxed w1 P 22 v∧Boxed (w1.setCell ⟨P,0,none⟩ v') P 22 v'∧(w1.setCell ⟨P,0,none⟩ v').ownsRow n₀ 2 1 v' m ys∧KeepsOthers W (w1.setCell ⟨P,0,none⟩ v')∧Below n₀ W (w1.setCell ⟨P,0,none⟩ v') ∧
     Boxed (w1.setCell ⟨P,0,none⟩ v') E 2 e∧Boxed (w1.setCell ⟨P,0,none⟩ v') Br 22 r∧ChAt (w1.setCell ⟨P,0,none⟩ v') Bx s f c h p q u∧v'.ownBlock≠some E ∧
     ∀(b:Nat) (cs:Array Value),W.heap[b]? = some (Obj.cells cs 44 (0,0))→(w1.setCell ⟨P,0,none⟩ v').heap[b]? = some (Obj.cells cs 44 (0,0)):=by
 obtain⟨a1,a2,a3,a4,a5⟩:=bP.appended (by decide) hrow hn₀ hP hown' hgrow
 have CK:∀(b:Nat) (cs:Array Value),W.heap[b]? = some (Obj.cells cs 44 (0,0))→(w1.setCell ⟨P,0,none⟩ v').heap[b]? = some (Obj.cells cs 44 (0,0)):=fun b cs hb=>by
  have hne:b≠P:=fun e'=>by
   subst e'
   have:=hb.symm.trans bP
   simp at this
  have hlt:=(Array.getElem?_eq_some_iff.1 hb).1
  exact (Below.heap_setCell w1 ⟨P,0,none⟩ v' b hne).trans ((hgrow.block b (by simp;omega) (chunk_not_row hb hrow)).trans ((Below.heap_alloc W tmp b hlt).trans hb))
 refine⟨a1,a2,a3,a4,a5,((bE.alloc tmp).kept hgrow (fun e'=>hvE e'.symm)).other hPE v',((bR.alloc tmp).kept hgrow (bR.not_row (by decide) hrow)).other hPR v',CK _ _ M,?_,CK⟩
 rcases hat with e'|e'
 ·rw[e'];exact hvE
 ·rw[e']
  intro e2
  injection e2 with e2
  have:=bE.lt
  simp at e2
  omega
theorem end_step {W:World} {n₀ P E Br m:Nat} {v e e' r:Value} {ys:List Value} {o:Obj}
    (bP:Boxed W P 22 v) (hrow:W.ownsRow n₀ 2 1 v m ys) (hvE:v.ownBlock≠some E) (bE:Boxed W E 2 e) (bR:Boxed W Br 22 r) (hn₀:n₀≤W.heap.size) (hE:n₀≤E) (hPE:E≠P) (hER:E≠Br) :
    Boxed ((W.alloc o).setCell ⟨E,0,none⟩ e') P 22 v∧((W.alloc o).setCell ⟨E,0,none⟩ e').ownsRow n₀ 2 1 v m ys∧Boxed ((W.alloc o).setCell ⟨E,0,none⟩ e') E 2 e'∧Boxed ((W.alloc o).setCell ⟨E,0,none⟩ e') Br 22 r∧KeepsOthers W ((W.alloc o).setCell ⟨E,0,none⟩ e')∧Below n₀ W ((W.alloc o).setCell ⟨E,0,none⟩ e') ∧
     ∀(b:Nat) (cs:Array Value),W.heap[b]? = some (Obj.cells cs 44 (0,0))→((W.alloc o).setCell ⟨E,0,none⟩ e').heap[b]? = some (Obj.cells cs 44 (0,0)):=by
 refine⟨(bP.alloc o).other (Ne.symm hPE) e',(hrow.alloc o).kept (grownBy_setCell' _ E e') (.inr hvE),(bE.alloc o).set e',(bR.alloc o).other (Ne.symm hER) e',(KeepsOthers.alloc W o).trans (KeepsOthers.setCell _ _ _),((Below.refl n₀ W).alloc hn₀ o).setCell (p:=⟨E,0,none⟩) hE e',fun b cs hb => ?_⟩
 have hne:b≠E:=fun e1=>by
  subst e1
  have:=hb.symm.trans bE
  simp at this
 exact (Below.heap_setCell _ ⟨E,0,none⟩ e' b hne).trans ((Below.heap_alloc W o b (Array.getElem?_eq_some_iff.1 hb).1).trans hb)
theorem own_first {W:World} {base g:Nat} (hg:W.heap[g]? = some (.cells #[] 2 (0,0))) (hb:base≤g):W.ownsRow base 2 1 (.slice (some ⟨g,0,none⟩) 0 0) 0 []:=
 ⟨rfl,.inr ⟨g,0,#[],rfl,hb,hg,Nat.le_refl _,by decide,rfl,rfl⟩⟩
attribute [local go_sem] Oper.semAt_some
set_option maxRecDepth 100000 in
set_option maxHeartbeats 4000000 in
theorem walk_yes {w:World} {a:Option Addr} {cap:Nat} {xs:List Int} (h:IntsAt w (.slice a xs.length cap) xs) (ha:AllI xs) (dr:rowOk xs=true) (F T:Nat) (hFT:F≤T) (hT:T≤xs.length) :
    Calls Tryz.prog 125 #[.slice a xs.length cap,.int .i64 F,.int .i64 T] w fun e w'=>∃v',e = .returned (.tuple #[v',.bool (walkOk xs F T)])∧rows.Own w' w.heap.size v' (walked xs F T)∧Below w.heap.size w w':=by
 have hr:=rowOk_true dr
 have h':=h
 obtain⟨a',cap',e,hlc,hcm,hnil,_⟩:=h
 injection e with e1 e2 e3
 subst e1 e3
 obtain⟨ad,hp,hI⟩:=piece_ints h' (by omega) T hT
 have CUT:=callsIn_wide (n:=8-1).2 (cut_yes (w:=w) (a:=a) hlc hcm 0 T (by omega))
 rw[hp]at CUT
 have ROW:=callsIn_wide (n:=8-1).2 (isRow_any h')
 rw[dr]at ROW
 clear hp
 refine callsIn_wide (n:=8).1 ?_
 refine callsIn_of_wp_marks Tryz.func125 rfl trivial ?_ rfl
 simp only[Tryz.ntmps125,List.size_toArray,List.length_cons,List.length_nil,Nat.reduceAdd,Nat.reduceSub,Array.replicate_succ,Array.replicate_zero,List.push_toArray,List.append_toArray,List.nil_append,List.cons_append]
 gi_wp2_with fail
 refine⟨trivial,CUT.mono ?_⟩
 rintro e w1 ⟨rfl,hw1⟩
 rw[hw1]
 clear hw1 w1 CUT
 gi_wp2_with fail
 refine⟨trivial,ROW.mono ?_⟩
 rintro e w1 ⟨rfl,hw1⟩
 rw[hw1]
 clear hw1 w1 ROW
 have hf1:¬(F:Int)<0:=by omega
 have hf2:¬(F:Int) > T:=by omega
 gi_wp2_with fail
 refine⟨trivial,(callsIn_wide.2 (chunks_any ad T T F _)).mono ?_⟩
 rintro e w1 ⟨rfl,hw1⟩
 have B0:Below w.heap.size w w1:=by
  rw[hw1]
  exact ((((((Below.refl _ w).alloc (Nat.le_refl _) _).alloc (by simp) _).alloc (by simp;omega) _).alloc (by simp;omega) _).alloc (by simp;omega) _)
 have s0:w1.heap.size=w.heap.size+5:=by rw[hw1];simp
 have E0:w1.heap[w.heap.size]? = some (.cells #[] 2 (0,0)):=by
  rw[hw1]
  exact (Below.heap_alloc _ _ _ (by simp;omega)).trans ((Below.heap_alloc _ _ _ (by simp;omega)).trans ((Below.heap_alloc _ _ _ (by simp;omega)).trans ((Below.heap_alloc _ _ _ (by simp)).trans (heap_alloc_new w _))))
 have bP:Boxed w1 (w.heap.size+1) 22 (.slice (some ⟨w.heap.size,0,none⟩) 0 0):=by
  rw[hw1]
  have:=Boxed.new (w.alloc (.cells #[] 2)) 22 (.slice (some ⟨w.heap.size,0,none⟩) 0 0)
  rw[World.size_alloc]at this
  exact ((this.alloc _).alloc _).alloc _
 have bE:Boxed w1 (w.heap.size+1+1) 2 (.int .i64 F):=by
  rw[hw1]
  have:=Boxed.new ((w.alloc (.cells #[] 2)).alloc (.cells #[.slice (some ⟨w.heap.size,0,none⟩) 0 0] 22)) 2 (.int .i64 F)
  rw[World.size_alloc,World.size_alloc]at this
  exact (this.alloc _).alloc _
 have bR:Boxed w1 (w.heap.size+1+1+1) 22 (.slice ad T T):=by
  rw[hw1]
  have:=Boxed.new (((w.alloc (.cells #[] 2)).alloc (.cells #[.slice (some ⟨w.heap.size,0,none⟩) 0 0] 22)).alloc (.cells #[.int .i64 F] 2)) 22 (.slice ad T T)
  rw[World.size_alloc,World.size_alloc,World.size_alloc]at this
  exact this.alloc _
 have bF:Boxed w1 (w.heap.size+1+1+1+1) 2 (.int .i64 F):=by
  rw[hw1]
  have:=Boxed.new ((((w.alloc (.cells #[] 2)).alloc (.cells #[.slice (some ⟨w.heap.size,0,none⟩) 0 0] 22)).alloc (.cells #[.int .i64 F] 2)).alloc (.cells #[.slice ad T T] 22)) 2 (.int .i64 F)
  rw[World.size_alloc,World.size_alloc,World.size_alloc,World.size_alloc]at this
  exact this
 have hI':∀W,Below w.heap.size w1 W→IntsAt W (.slice ad (xs.take T).length T) (xs.take T):=fun W hW=>intsAt_below hI (B0.trans hW)
 have el:(xs.take T).length=T:=by simp;omega
 have bR':Boxed w1 (w.heap.size+1+1+1) 22 (.slice ad (xs.take T).length T):=by rw[el];exact bR
 have haT:AllI (xs.take T):=allI_take ha T
 have hWB:=walk_by hT (by omega) (T-F) F (Nat.le_refl _) hFT
 have STOPS:=chunks_stops (8-1) (by decide) (w.heap.size+1+1+1) (w.heap.size+1+1+1+1) w.heap.size F ad T (xs.take T) (by omega) haT (by omega) w1 (by omega) (by omega) (by omega) bR' bF.cell hI'
 have hlen:=plO_length (xs.take T) F
 have CH:=chunk_le (xs.take T)
 have CN:=chunk_nat (xs.take T)
 rw[el]at hlen CH
 obtain⟨i0,hi,hz0,hz1,hz2⟩:=info_parts info
 generalize xs.take T=ys at *
 clear bR' bF hI' haT
 gi_wp2_with fail
 rw[←hw1]
 clear hw1
 refine wpIn_rangeFunc_ownH rfl (by decide) (gf:=150) (lb:=#[.pointer (some ⟨w.heap.size+1+1+1+1,0,none⟩),.pointer (some ⟨w.heap.size+1+1+1,0,none⟩)]) rfl trivial (enters_of Tryz.func150 (by kernel_rfl) rfl)
  STOPS kc_t (kc_b (by omega) (by omega)) (Below.refl _ _) (fun _=>rfl)
  (fun pre W=>(∃v,Boxed W (w.heap.size+1) 22 v∧W.ownsRow w.heap.size 2 1 v pre.length (cellsOf (pre.map (fun p=>(p.val:Int))))∧v.ownBlock≠some (w.heap.size+1+1))∧Boxed W (w.heap.size+1+1) 2 (.int .i64 (enf ys F pre))∧Boxed W (w.heap.size+1+1+1) 22 (.slice ad T T)∧Below w.heap.size w W)
  (fun _ _ _=>False)
  (OwnFrom.and (Own.from (holdsRow_own w.heap.size (w.heap.size+1) 22 2 1 (fun pre:List Pl=>pre.length) (fun pre:List Pl=>cellsOf (pre.map (fun p=>(p.val:Int)))) (fun _ v=>v.ownBlock≠some (w.heap.size+1+1))) _) (OwnFrom.and (Own.from (boxed_own _ _ (fun pre=>Value.int .i64 (enf ys F pre))) _) (OwnFrom.and (Own.from (boxed_own _ _ (fun _=>Value.slice ad T T)) _) (ownFrom_below (Nat.le_refl _) (by omega)))))
  (fun _ _ _ _ _ hs _ _=>hs)
  ⟨⟨_,bP,own_first E0 (Nat.le_refl _),fun e=>by have e':w.heap.size=w.heap.size+1+1:=Option.some.inj e;omega⟩,bE,bR,B0⟩
  (fun x a' W=>∃Bx,w.heap.size+1+1+1<Bx∧ChAt W Bx (uS (ys.getD x.val 0)) (uF (ys.getD x.val 0)) (uC (ys.getD x.val 0)) (uH (ys.getD x.val 0)) (uP (ys.getD x.val 0)) (uM (ys.getD x.val 0)) (piece ad x.val (chunk ys x.val).toNat) ∧
   a' = { tmps:=#[.slice a xs.length cap,.int .i64 F,.int .i64 T,undef,undef,undef,.slice none 0 0,.bool false,.slice ad T T,.bool true,.pointer (some ⟨w.heap.size+1,0,none⟩),.pointer (some ⟨w.heap.size+1+1,0,none⟩),.int .i64 (x.val:Int),.pointer (some ⟨Bx,0,none⟩),
    .tuple #[.slice ad T T,.bool true],.slice a xs.length cap,.int .i64 T,.tuple #[.slice ad T T,.bool true],.slice ad T T,.bool true,.slice a xs.length cap,.bool true,.bool false,.bool false,.bool true,.bool false,.bool false,.bool false,.int .i64 F,
    .bool (decide ((F:Int)<0)),.bool (decide ((F:Int)<0)),.bool (decide ((F:Int)<0)),.int .i64 F,.int .i64 T,.bool false,.bool (decide ((F:Int)<0)),.slice (some ⟨w.heap.size,0,none⟩) 0 0,.int .i64 F,.slice ad T T,.int .i64 F,
    .func (.func 150) #[] #[.pointer (some ⟨w.heap.size+1+1+1+1,0,none⟩),.pointer (some ⟨w.heap.size+1+1+1,0,none⟩)],.int .i64 (x.val:Int),cv (uS (ys.getD x.val 0)) (uF (ys.getD x.val 0)) (uC (ys.getD x.val 0)) (uH (ys.getD x.val 0)) (uP (ys.getD x.val 0)) (uM (ys.getD x.val 0)) (piece ad x.val (chunk ys x.val).toNat),undef,undef,undef,undef,undef,undef,undef,undef,undef,undef,undef,undef],defers:=[] })
  (fun x a' _ X Y row hs hg hr=>by
   obtain⟨Bx,h1,h2,h3⟩:=hs
   exact⟨Bx,h1,(hg.block Bx (lt_of_block h2) (fun e=>by obtain⟨_,o,ho,hc⟩:=hr Bx e.symm;rw[show X.heap[Bx]? = _ from h2]at ho;cases ho;cases hc)).trans h2,h3⟩)
  ?assign ?body ?done ?stop
 case assign=>
  rintro l pre x W K ⟨⟨v,c1,c2,c3⟩,c4,c5,c6⟩ hK
  have sW:=c6.size
  have hlt:=c5.lt
  simp only[encs,piece]at hK ⊢
  generalize uS (ys.getD x.val 0)=s at *
  generalize uF (ys.getD x.val 0)=f at *
  generalize uC (ys.getD x.val 0)=c at *
  generalize uH (ys.getD x.val 0)=g at *
  generalize uP (ys.getD x.val 0)=p at *
  generalize uM (ys.getD x.val 0)=m at *
  generalize (chunk ys x.val).toNat=N at *
  generalize (if N=0 then ad else Option.map (fun y=>y.add x.val) ad)=pd at *
  gi_wp2
  exact hK _ _ ((KeepsOthers.alloc _ _).from _) ⟨(Below.refl _ W).alloc sW _,Below.heap_alloc W _ _ hlt,fun b cs hb=>(Below.heap_alloc W _ b (Array.getElem?_eq_some_iff.1 hb).1).trans hb⟩ ⟨⟨v,c1.alloc _,c2.alloc _,c3⟩,c4.alloc _,c5.alloc _,c6.alloc sW _⟩ ⟨W.heap.size,hlt,chAt_new W s f c g p m (.slice pd N N),rfl⟩
 case body=>
  rintro l pre x a' W hl ⟨r,hr'⟩ ⟨⟨v,c1,c2,c3⟩,c4,c5,c6⟩ ⟨Bx,hBx,M,rfl⟩ hlt
  have sW:=c6.size
  have x1:=x.isLt
  have x2:=CH x.val
  have x3:=CN x.val
  generalize hN:(chunk ys x.val).toNat=N at *
  have es:enf ys F (pre++[x])=(x.val:Int)+N:=by rw[enf_snoc,x3]
  have em:cellsOf ((pre++[x]).map (fun p=>(p.val:Int)))=cellsOf (pre.map (fun p=>(p.val:Int)))++[.int .i64 (x.val:Int)]:=by simp[cellsOf]
  have hN1:N≤1000:=by omega
  have ep:(pre++[x]).length=pre.length+1:=by simp
  unfold piece at M ⊢
  generalize uS (ys.getD x.val 0)=s at *
  generalize uF (ys.getD x.val 0)=f at *
  generalize uC (ys.getD x.val 0)=c at *
  generalize uH (ys.getD x.val 0)=g at *
  generalize uP (ys.getD x.val 0)=p at *
  generalize uM (ys.getD x.val 0)=m at *
  generalize (if N=0 then ad else Option.map (fun y=>y.add x.val) ad)=pd at *
  generalize hpost:pre++[x]=post at *
  generalize hxv:(x.val:Int)=xv at *
  have hx1:0≤xv∧xv≤1000:=by omega
  generalize hcs:cellsOf (pre.map (fun p=>(p.val:Int)))=cs at *
  have hpl:pre.length<1000:=by omega
  have cP:=c1.cell
  have hfin:∀(v':Value) (w1:World),w1.ownsRow w.heap.size 2 1 v' (pre.length+1) (cs++[.int .i64 xv])→(W.alloc (.cells #[.int .i64 xv] 2)).grownBy w1 v.ownBlock→(v'.ownBlock=v.ownBlock∨v'.ownBlock=some (W.alloc (.cells #[.int .i64 xv] 2)).heap.size)→_:=fun v' w1 q1 q2 q3=>app_step c1 c2 c3 c4 c5 M sW (by omega) (by omega) (by omega) q1 q2 q3
  have HF:Hid _:=hfin
  have HE:Hid _:=(⟨es,em,ep⟩:_∧_∧_)
  clear hfin es em ep M hpost hxv x2 x3 STOPS CH CN E0 bP bE bR hcs hN hI
  have SZ:∀W,_:=fun W=>callsIn_wide (n:=8-1-1-1).2 (size_any s f c g p m pd N N W)
  gi_wp2_with (first
   |(gi_at_builtin;refine wpListIn_append_own_at _ rfl _ _ 22 rfl w.heap.size 2 i0 (.int .i64 0) 1 8 Tryz.underlying22 hi hz0 hz1 hz2 rfl (by decide) _ _ _ rfl (c2.alloc _) ⟨W.heap.size,0,none⟩ 1 1 [.int .i64 xv] rfl rfl (cell_one_new _ _ _) (by simp[Value.oneCell']) (by unfold maxLen;omega) (by omega) (by simp;omega) ?_
     intro v' w1 hown' hgrow _ hat
     obtain⟨g',cap',rfl⟩:=ownsRow_succ hown'
     obtain⟨q1,q2,q3,q4,q5,q6,q7,q8,q9,q10⟩:=HF.out _ _ hown' hgrow hat
     have hc1:=q1.cell
     have hf1:=q1.frozen
     have hc6:=(q6.alloc (cb s f c g p m (.slice pd N N))).cell
     have hf6:=(q6.alloc (cb s f c g p m (.slice pd N N))).frozen
     obtain⟨m0,m1,m2,m3,m4,m5,m6,_⟩:=chAt_cells q8
     have H2:Hid _:=q2
     have H3:Hid _:=q3
     have H4:Hid _:=q4
     have H5:Hid _:=q5
     have H6:Hid _:=q6
     have H7:Hid _:=q7
     have H9:Hid _:=q9
     have H10:Hid _:=q10
     clear hown' hgrow hat q1 q2 q3 q4 q5 q6 q7 q8 q9 q10 HF c1 c2 c4 cP
     have c5':Boxed W _ _ _:=c5
     clear c5)
   |(refine⟨trivial,?_⟩;gi_at_call 69;refine (CallsIn.inRound l (SZ _)).mono ?_;rintro e w' ⟨rfl,rfl⟩))
  obtain⟨es,em,ep⟩:=HE.out
  obtain⟨p1,p2,p3,p4,p5,p6,p7⟩:=end_step (o:=cb s f c g p m (.slice pd N N)) (e':=.int .i64 (xv+N)) H2.out H3.out H9.out H6.out H7.out (Nat.le_trans sW H5.out.size) (by omega) (by omega) (by omega)
  refine⟨(H4.out.trans p5).from _,⟨H5.out.trans p6,p4.trans c5'.symm,fun b cs hb=>p7 b cs (H10.out b cs hb)⟩,⟨_,p1,?_,H9.out⟩,?_,p4,(c6.trans H5.out).trans p6⟩
  ·rw[ep,em];exact p2
  ·rw[es];exact p3
 case done=>
  rintro D zs W hD rfl ⟨⟨v,c1,c2,c3⟩,c4,c5,c6⟩ hK
  have cP:=c1.cell
  have cE:=c4.cell
  have hBD:=c6.trans (belowK_b (w:=w) (Nat.le_refl _) W D _ (.deferred none) (by omega) hK rfl rfl)
  have RG:rangeOk xs F T=true:=by simp only[rangeOk,dr,Bool.true_and,decide_eq_true_eq];omega
  by_cases hend:enf ys F (plO ys F)=T
  ·rw[if_pos hend]at hWB
   have wk:walkR xs F T=some ((plO ys F).map (fun p=>(p.val:Int))):=by unfold walkR;rw[if_pos RG];exact hWB
   have w1':walkOk xs F T=true:=by unfold walkOk;rw[wk];rfl
   have w2':walked xs F T=(plO ys F).map (fun p=>(p.val:Int)):=by unfold walked;rw[wk];rfl
   rw[hend]at cE
   have HO:Hid (rows.Own (W.putObj D (.deferred none)) w.heap.size v ((plO ys F).map (fun p=>(p.val:Int)))):=by
    have:=ownsRow_putObj c2 (.deferred none) hK rfl
    show World.ownsRow _ _ _ _ _ _ _
    rw[List.length_map]
    exact this
   have HBD:Hid _:=hBD
   have HW:Hid (walkOk xs F T=true∧walked xs F T=(plO ys F).map (fun p=>(p.val:Int))):=⟨w1',w2'⟩
   clear hWB wk w1' w2' hBD c1 c2 c3 c4 c5 c6 STOPS CH CN E0 bP bE bR hI RG hend B0
   gi_wp2
   refine⟨by simp,.inl ⟨_,_,rfl,run_takeDeferred hK,?_⟩⟩
   exact⟨_,results_tmp2 rfl _ _ _,v,by rw[HW.out.1];rfl,by rw[HW.out.2];exact HO,HBD⟩
  ·rw[if_neg hend]at hWB
   have wk:walkR xs F T=none:=by unfold walkR;rw[if_pos RG];exact hWB
   have w1':walkOk xs F T=false:=by unfold walkOk;rw[wk];rfl
   have w2':walked xs F T=[]:=by unfold walked;rw[wk];rfl
   have HBD:Hid _:=hBD
   have HW:Hid (walkOk xs F T=false∧walked xs F T=[]):=⟨w1',w2'⟩
   clear hWB wk w1' w2' hBD c1 c2 c3 c4 c5 c6 STOPS CH CN E0 bP bE bR hI RG B0
   generalize enf ys F (plO ys F)=en at *
   have hend':(en==(T:Int))=false:=by simpa using hend
   gi_wp2
   refine⟨by simp,.inl ⟨_,_,rfl,run_takeDeferred hK,?_⟩⟩
   exact⟨_,results_tmp2 rfl _ _ _,_,by rw[HW.out.1];rfl,by rw[HW.out.2];exact own_nil _ _,HBD⟩
 case stop=>
  rintro D c pre W _ _ h _
  exact h.elim
theorem implWalk (w:World) (v:Value) (xs:List Int) (f:Int) (t:Int) (h:IntsAt w v xs) (_hl:xs.length≤1048576) (ha:AllI xs) (_hf:I64 f) (ht:I64 t) :
    Calls Tryz.prog 125 #[v,.int .i64 f,.int .i64 t] w fun e w'=>∃v',e = .returned (.tuple #[v',.bool (walkOk xs f t)])∧rows.Own w' w.heap.size v' (walked xs f t)∧Below w.heap.size w w':=by
 cases d:rangeOk xs f t
 ·have wk:walkR xs f t=none:=by unfold walkR;rw[d];rfl
  have w1:walkOk xs f t=false:=by unfold walkOk;rw[wk];rfl
  have w2:walked xs f t=[]:=by unfold walked;rw[wk];rfl
  rw[w1,w2]
  exact walk_no h ht d
 ·have d':=d
  simp only[rangeOk,Bool.and_eq_true,decide_eq_true_eq]at d'
  obtain⟨dr,f0,ft,tl⟩:=d'
  obtain⟨F,rfl⟩:=Int.eq_ofNat_of_zero_le f0
  obtain⟨T,rfl⟩:∃T:Nat,t=T:=Int.eq_ofNat_of_zero_le (by omega)
  have h':=h
  obtain⟨a,cap,rfl,_,_,_,_⟩:=h
  exact walk_yes h' ha dr F T (by omega) (by omega)
end Go.Proofs.YtemlagfaaibenaaGreat.walks
namespace Go.Proofs.YtemlagfaaibenaaGreat.hp
open Go.RowKit rows heads words walks
set_option maxRecDepth 100000
set_option linter.unusedVariables false
structure Pd where
 s:Int
 f:Int
 c:Int
 h:Int
 p:Bool
 m:Bool
 u:Value
 pl:Int
abbrev pdv (d:Pd):Value:=.agg #[(.int .i64 d.s),(.int .i64 d.f),(.int .i64 d.c),(.int .i64 d.h),(.bool d.p),(.bool d.m),d.u,(.int .i64 d.pl)]
abbrev pdb (d:Pd):Obj:=.cells #[(.int .i64 d.s),(.int .i64 d.f),(.int .i64 d.c),(.int .i64 d.h),(.bool d.p),(.bool d.m),d.u,(.int .i64 d.pl)] 46
abbrev pdD:Pd:=⟨0,0,0,0,false,false,.slice none 0 0,0⟩
def pdOf (a:Option Addr) (xs:List Int) (k:Nat):Pd:=⟨uS (xs.getD k 0),uF (xs.getD k 0),uC (xs.getD k 0),uH (xs.getD k 0),uP (xs.getD k 0),uM (xs.getD k 0),piece a k (chunk xs k).toNat,k⟩
def cellsP:List Pd→List Value
 | []=>[]
 |d :: ds=>(.int .i64 d.s) :: (.int .i64 d.f) :: (.int .i64 d.c) :: (.int .i64 d.h) :: (.bool d.p) :: (.bool d.m) :: d.u :: (.int .i64 d.pl) :: cellsP ds
theorem cellsP_length:∀ds:List Pd,(cellsP ds).length=ds.length*8
 | []=>rfl
 |_ :: ds=>by simp[cellsP,cellsP_length ds];omega
theorem cellsP_append:∀ds es:List Pd,cellsP (ds++es)=cellsP ds++cellsP es
 | [],_=>rfl
 |_ :: ds,es=>by simp[cellsP,cellsP_append ds es]
theorem cellsP_at:∀(ds:List Pd) (i:Nat),i<ds.length→(cellsP ds)[i*8]? = some (.int .i64 (ds.getD i pdD).s)∧(cellsP ds)[i*8+1]? = some (.int .i64 (ds.getD i pdD).f)∧(cellsP ds)[i*8+2]? = some (.int .i64 (ds.getD i pdD).c)∧(cellsP ds)[i*8+3]? = some (.int .i64 (ds.getD i pdD).h)∧(cellsP ds)[i*8+4]? = some (.bool (ds.getD i pdD).p)∧(cellsP ds)[i*8+5]? = some (.bool (ds.getD i pdD).m)∧(cellsP ds)[i*8+6]? = some ((ds.getD i pdD).u)∧(cellsP ds)[i*8+7]? = some (.int .i64 (ds.getD i pdD).pl)
 | [],_,h=>by simp at h
 |e :: ds,0,_=>by simp[cellsP]
 |e :: ds,i+1,h=>by
  have:=cellsP_at ds i (by simpa using h)
  rw[show (i+1)*8=i*8+1+1+1+1+1+1+1+1 by omega]
  simpa [cellsP] using this
def SlicesP (ds:List Pd):Prop:=∀d ∈ ds,∃a n c,d.u = .slice a n c
theorem cellsP_one:∀ {ds:List Pd},SlicesP ds→∀v ∈ cellsP ds,v.oneCell'=true
 | [],_,v,h=>by simp[cellsP]at h
 |d :: ds,hs,v,h=>by
  simp only[cellsP,List.mem_cons]at h
  rcases h with rfl|rfl|rfl|rfl|rfl|rfl|rfl|rfl|h
  ·rfl
  ·rfl
  ·rfl
  ·rfl
  ·rfl
  ·rfl
  ·obtain⟨a,n,c,e⟩:=hs d (List.mem_cons_self ..)
   rw[e];rfl
  ·rfl
  ·exact cellsP_one (fun d' hd=>hs d' (List.mem_cons_of_mem _ hd)) v h
def PdsAt (w:World) (v:Value) (ds:List Pd):Prop:=
 ∃a cap,v = .slice a ds.length cap∧ds.length≤cap∧cap≤maxLen∧(a=none→cap=0) ∧
  (0<ds.length→∃b off,a=some ⟨b,off,none⟩∧b<w.heap.size∧∀i,i<ds.length→w.cell? ⟨b,off+i*8,none⟩=some (.int .i64 (ds.getD i pdD).s)∧w.cell? ⟨b,off+i*8+1,none⟩=some (.int .i64 (ds.getD i pdD).f)∧w.cell? ⟨b,off+i*8+2,none⟩=some (.int .i64 (ds.getD i pdD).c)∧w.cell? ⟨b,off+i*8+3,none⟩=some (.int .i64 (ds.getD i pdD).h)∧w.cell? ⟨b,off+i*8+4,none⟩=some (.bool (ds.getD i pdD).p)∧w.cell? ⟨b,off+i*8+5,none⟩=some (.bool (ds.getD i pdD).m)∧w.cell? ⟨b,off+i*8+6,none⟩=some ((ds.getD i pdD).u)∧w.cell? ⟨b,off+i*8+7,none⟩=some (.int .i64 (ds.getD i pdD).pl))
theorem pdsAt_below {w w':World} {v:Value} {ds:List Pd} (h:PdsAt w v ds) (hb:Below w.heap.size w w'):PdsAt w' v ds:=by
 obtain⟨a,cap,rfl,h1,h2,h4,h3⟩:=h
 refine⟨a,cap,rfl,h1,h2,h4,fun hp => ?_⟩
 obtain⟨b,off,rfl,hlt,hc⟩:=h3 hp
 refine⟨b,off,rfl,Nat.lt_of_lt_of_le hlt hb.size,fun i hi => ?_⟩
 obtain⟨k0,k1,k2,k3,k4,k5,k6,k7⟩:=hc i hi
 exact⟨(hb.cell (p:=⟨b,_,none⟩) hlt).trans k0,(hb.cell (p:=⟨b,_,none⟩) hlt).trans k1,(hb.cell (p:=⟨b,_,none⟩) hlt).trans k2,(hb.cell (p:=⟨b,_,none⟩) hlt).trans k3,(hb.cell (p:=⟨b,_,none⟩) hlt).trans k4,(hb.cell (p:=⟨b,_,none⟩) hlt).trans k5,(hb.cell (p:=⟨b,_,none⟩) hlt).trans k6,(hb.cell (p:=⟨b,_,none⟩) hlt).trans k7⟩
def OwnP (w:World) (base:Nat) (v:Value) (ds:List Pd):Prop:=w.ownsRow base 46 8 v ds.length (cellsP ds)
theorem ownP_below {w w':World} {base:Nat} {v:Value} {ds:List Pd} (h:OwnP w base v ds) (hb:Below w.heap.size w w'):OwnP w' base v ds:=row_ch (S:=[]) h (ch_below hb) (by simp)
theorem ownP_base {w:World} {base base':Nat} {v:Value} {ds:List Pd} (h:OwnP w base v ds) (hb:base'≤base):OwnP w base' v ds:=by
 obtain⟨h0,⟨h1,h2⟩|⟨g,cap,cur,h1,hg,hh⟩⟩:=h
 ·exact⟨h0,.inl ⟨h1,h2⟩⟩
 ·exact⟨h0,.inr ⟨g,cap,cur,h1,Nat.le_trans hb hg,hh⟩⟩
theorem ownP_at {w:World} {base:Nat} {v:Value} {ds:List Pd} (h:OwnP w base v ds):PdsAt w v ds:=by
 have h':=h
 obtain⟨_,⟨rfl,hn⟩|⟨g,cap,cur,rfl,hg,hh,hle,hm,hs,ht⟩⟩:=h
 ·have:ds=[]:=by simpa using hn
  subst this
  exact⟨none,0,rfl,by simp,by decide,fun _=>rfl,fun hp=>absurd hp (by simp)⟩
 ·refine⟨_,cap,rfl,hle,hm,fun h=>(by cases h),fun hp=>⟨g,0,rfl,lt_of_block hh,fun i hi => ?_⟩⟩
  obtain⟨k0,k1,k2,k3,k4,k5,k6,k7⟩:=cellsP_at ds i hi
  have cl:∀j,j<ds.length*8→w.cell? ⟨g,0+j,none⟩=(cellsP ds)[j]? := fun j hj=>by rw[Nat.zero_add];exact World.ownsRow.cellAt h' j (by omega)
  refine⟨(show w.cell? ⟨g,0+i*8,none⟩=_ from (cl (i*8) (by omega)).trans k0),(show w.cell? ⟨g,0+i*8+1,none⟩=_ from by rw[Nat.add_assoc];exact (cl (i*8+1) (by omega)).trans k1),(show w.cell? ⟨g,0+i*8+2,none⟩=_ from by rw[Nat.add_assoc];exact (cl (i*8+2) (by omega)).trans k2),(show w.cell? ⟨g,0+i*8+3,none⟩=_ from by rw[Nat.add_assoc];exact (cl (i*8+3) (by omega)).trans k3),(show w.cell? ⟨g,0+i*8+4,none⟩=_ from by rw[Nat.add_assoc];exact (cl (i*8+4) (by omega)).trans k4),(show w.cell? ⟨g,0+i*8+5,none⟩=_ from by rw[Nat.add_assoc];exact (cl (i*8+5) (by omega)).trans k5),(show w.cell? ⟨g,0+i*8+6,none⟩=_ from by rw[Nat.add_assoc];exact (cl (i*8+6) (by omega)).trans k6),(show w.cell? ⟨g,0+i*8+7,none⟩=_ from by rw[Nat.add_assoc];exact (cl (i*8+7) (by omega)).trans k7)⟩
theorem pds_slice {w:World} {v:Value} {ds:List Pd} (h:PdsAt w v ds):∃a c,v = .slice a ds.length c:=by
 obtain⟨a,c,e,_⟩:=h
 exact⟨a,c,e⟩
theorem pds_cell {w:World} {a:Option Addr} {n cap:Nat} {ds:List Pd} (h:PdsAt w (.slice a n cap) ds) {i:Nat} (hi:i<ds.length):∃b off,a=some ⟨b,off,none⟩∧b<w.heap.size∧w.cell? ⟨b,off+i*8,none⟩=some (.int .i64 (ds.getD i pdD).s)∧w.cell? ⟨b,off+i*8+1,none⟩=some (.int .i64 (ds.getD i pdD).f)∧w.cell? ⟨b,off+i*8+2,none⟩=some (.int .i64 (ds.getD i pdD).c)∧w.cell? ⟨b,off+i*8+3,none⟩=some (.int .i64 (ds.getD i pdD).h)∧w.cell? ⟨b,off+i*8+4,none⟩=some (.bool (ds.getD i pdD).p)∧w.cell? ⟨b,off+i*8+5,none⟩=some (.bool (ds.getD i pdD).m)∧w.cell? ⟨b,off+i*8+6,none⟩=some ((ds.getD i pdD).u)∧w.cell? ⟨b,off+i*8+7,none⟩=some (.int .i64 (ds.getD i pdD).pl):=by
 obtain⟨a',c',e,_,_,_,hc⟩:=h
 injection e with e1 e2 e3
 subst e1
 obtain⟨b,off,rfl,hb,hcc⟩:=hc (by omega)
 exact⟨b,off,rfl,hb,hcc i hi⟩
theorem pds_cap {w:World} {a:Option Addr} {n cap:Nat} {ds:List Pd} (h:PdsAt w (.slice a n cap) ds):n=ds.length∧n≤cap∧cap≤9223372036854775807:=by
 obtain⟨a',c',e,h1,h2,_,_⟩:=h
 injection e with e1 e2 e3
 subst e3
 exact⟨e2,by omega,h2⟩
theorem pds_news {w:World} {ad:Addr} {n cap:Nat} {ds:List Pd} (h:PdsAt w (.slice (some ad) n cap) ds):∀j v,(cellsP ds)[j]? = some v→w.cell? (ad.add j)=some v:=by
 intro j v hj
 have hl:j<(cellsP ds).length:=(List.getElem?_eq_some_iff.1 hj).1
 rw[cellsP_length]at hl
 obtain⟨i,hi⟩:∃i,j / 8=i:=⟨_,rfl⟩
 have hd:i<ds.length:=by omega
 obtain⟨b,off,e,_,k0,k1,k2,k3,k4,k5,k6,k7⟩:=pds_cell h hd
 injection e with e
 subst e
 obtain⟨q0,q1,q2,q3,q4,q5,q6,q7⟩:=cellsP_at ds i hd
 have e2:(⟨b,off,none⟩:Addr).add j=⟨b,off+j,none⟩:=by cases j<;>simp[Addr.add]
 rw[e2]
 rcases (show j=i*8∨j=i*8+1∨j=i*8+2∨j=i*8+3∨j=i*8+4∨j=i*8+5∨j=i*8+6∨j=i*8+7 by omega) with e|e|e|e|e|e|e|e
 ·rw[e]at hj
  rw[q0]at hj
  cases hj
  rw[e]
  exact k0
 ·rw[e]at hj
  rw[q1]at hj
  cases hj
  rw[e,←Nat.add_assoc]
  exact k1
 ·rw[e]at hj
  rw[q2]at hj
  cases hj
  rw[e,←Nat.add_assoc]
  exact k2
 ·rw[e]at hj
  rw[q3]at hj
  cases hj
  rw[e,←Nat.add_assoc]
  exact k3
 ·rw[e]at hj
  rw[q4]at hj
  cases hj
  rw[e,←Nat.add_assoc]
  exact k4
 ·rw[e]at hj
  rw[q5]at hj
  cases hj
  rw[e,←Nat.add_assoc]
  exact k5
 ·rw[e]at hj
  rw[q6]at hj
  cases hj
  rw[e,←Nat.add_assoc]
  exact k6
 ·rw[e]at hj
  rw[q7]at hj
  cases hj
  rw[e,←Nat.add_assoc]
  exact k7
theorem infoP:(Tryz.prog.info? 46).map (fun i=>(i.zero,i.size,i.bytes))=some (some (pdv pdD),8,72):=by kernel_rfl
end Go.Proofs.YtemlagfaaibenaaGreat.hp
namespace Go.Proofs.YtemlagfaaibenaaGreat.hp
open Go.RowKit rows heads words walks
set_option maxRecDepth 100000
set_option linter.unusedVariables false
set_option linter.unusedSimpArgs false
def pdsOf (a:Option Addr) (xs:List Int) (ps:List Int):List Pd:=ps.map (fun p=>pdOf a xs p.toNat)
theorem pdsOf_slices (a:Option Addr) (xs:List Int) (ps:List Int):SlicesP (pdsOf a xs ps):=by
 intro d hd
 obtain⟨p,_,rfl⟩:=List.mem_map.1 hd
 exact⟨_,_,_,rfl⟩
theorem pd_new (W:World) (d:Pd):∀j u,(cellsP [d])[j]? = some u→(W.alloc (pdb d)).cell? ((⟨W.heap.size,0,none⟩:Addr).add j)=some u:=by
 intro j u hj
 have e2:(⟨W.heap.size,0,none⟩:Addr).add j=⟨W.heap.size,j,none⟩:=by cases j<;>simp[Addr.add]
 rw[e2]
 have hl:j<8:=by have:=(List.getElem?_eq_some_iff.1 hj).1;simpa [cellsP] using this
 have hb:(W.alloc (pdb d)).heap[W.heap.size]? = some (pdb d):=heap_alloc_new W _
 rcases (show j=0∨j=1∨j=2∨j=3∨j=4∨j=5∨j=6∨j=7 by omega) with rfl|rfl|rfl|rfl|rfl|rfl|rfl|rfl
 all_goals
  simp only[cellsP,List.getElem?_cons_zero,List.getElem?_cons_succ,Option.some.injEq]at hj
  subst hj
  unfold World.cell?
  rw[hb]
  rfl
theorem ownP_app {W:World} {base:Nat} {v:Value} {ds:List Pd} {d:Pd} (h:W.ownsRow base 46 8 v (ds.length+1) (cellsP ds++cellsP [d])):OwnP W base v (ds++[d]):=by
 unfold OwnP
 rw[cellsP_append,List.length_append]
 exact h
theorem ownP_first {W:World} {base g:Nat} (hg:W.heap[g]? = some (.cells #[] 46 (0,0))) (hb:base≤g):OwnP W base (.slice (some ⟨g,0,none⟩) 0 0) []:=
 ⟨rfl,.inr ⟨g,0,#[],rfl,hb,hg,Nat.le_refl _,by decide,rfl,rfl⟩⟩
set_option maxHeartbeats 8000000 in
theorem placedIn_any {w:World} {a:Option Addr} {cap:Nat} {xs:List Int} (h:IntsAt w (.slice a xs.length cap) xs) (hl:xs.length≤1048576) (ha:AllI xs) (f t:Int) (hf:I64 f) (ht:I64 t) :
    Calls Tryz.prog 104 #[.slice a xs.length cap,.int .i64 f,.int .i64 t] w fun e w'=>∃v',e = .returned (.tuple #[v',.bool (walkOk xs f t)])∧OwnP w' w.heap.size v' (pdsOf a xs (walked xs f t))∧Below w.heap.size w w':=by
 obtain⟨L,hL⟩:∃L,walked xs f t=L:=⟨_,rfl⟩
 obtain⟨ok,hok⟩:∃ok,walkOk xs f t=ok:=⟨_,rfl⟩
 have HM:Hid (∀x ∈ L,∃j:Nat,x=j∧j<xs.length∧rowOk xs=true∧chunk xs j≠0):=fun x hx=>walked_mem (hL▸hx)
 have hLl:L.length≤1000:=by have:=(walked_length xs f t).1;rw[hL]at this;exact this
 have WK:=implWalk w _ xs f t h hl ha hf ht
 rw[hL,hok]at WK
 rw[hL,hok]
 obtain⟨i0,hi,hz0,hz1,hz2⟩:=info_parts infoP
 have HI:Hid _:=And.intro hi (And.intro hz0 (And.intro hz1 hz2))
 have HH:Hid (IntsAt w (.slice a xs.length cap) xs):=h
 have HA:Hid _:=ha
 clear hL hok hi hz0 hz1 hz2 h ha
 go_enter Tryz.func104,Tryz.ntmps104
 go_wp2_with fail
 refine WK.mono ?_
 clear WK
 rintro e w1 ⟨vl,rfl,O1,b1⟩
 have HO1:Hid (rows.Own w1 w.heap.size vl L):=O1
 obtain⟨la,lc,rfl,hl1,hl2,_,_⟩:=own_ints O1
 have HB1:Hid _:=b1
 have s1:=b1.size
 have OE:OwnP (w1.alloc (.cells #[] 46)) w.heap.size (.slice (some ⟨w1.heap.size,0,none⟩) 0 0) []:=ownP_first (heap_alloc_new w1 _) s1
 have BE:Below w.heap.size w (w1.alloc (.cells #[] 46)):=b1.alloc s1 _
 have HOE:Hid _:=OE
 have HBE:Hid _:=BE
 have HOL:Hid (rows.Own (w1.alloc (.cells #[] 46)) w.heap.size (.slice la L.length lc) L):=own_below HO1.out ((Below.refl _ _).alloc (Nat.le_refl _) _)
 have HLT:Hid (∀k,(Value.slice la L.length lc).ownBlock=some k→k<w1.heap.size):=fun k e=>(World.ownsRow.lt HO1.out k e).2
 have sX:w1.heap.size≤(w1.alloc (.cells #[] 46)).heap.size:=by simp
 clear O1 b1 OE BE
 go_wp2_with fail
 generalize (w1.alloc (.cells #[] 46))=X at *
 go_loopw [10,25] (fun o i wr=>∃(k:Nat) (v:Value),v=o∧k≤L.length∧i = .int .i64 (k:Int)∧OwnP wr w.heap.size v (pdsOf a xs (L.take k))∧(∀b,v.ownBlock=some b→w1.heap.size≤b)∧rows.Own wr w.heap.size (.slice la L.length lc) L∧w1.heap.size≤wr.heap.size∧Below w.heap.size w wr) (fun _ i _=>L.length-(intOf i).toNat)
 case atStart=>exact⟨0,_,rfl,Nat.zero_le _,rfl,HOE.out,fun b e=>by simp[Value.ownBlock]at e;omega,HOL.out,sX,HBE.out⟩
 case round=>
  obtain⟨k,v,rfl,hk,rfl,hO,hbk,hOL,hws,hB⟩:=hrel
  by_cases hlt:k<L.length
  ·have hlt':(k:Int)<(L.length:Int):=by omega
   obtain⟨j,hj,hjl,hro,hch⟩:=HM.out (L.getD k 0) (by rw[List.getD_eq_getElem?_getD,List.getElem?_eq_getElem hlt];exact List.getElem_mem hlt)
   obtain⟨la',lc',e',_,_,_,hcy⟩:=own_ints hOL
   injection e' with e1 e2 e3
   subst e1 e3
   obtain⟨lb,lo,rfl,_,hcy⟩:=hcy (by omega)
   have x0:=hcy k hlt
   rw[hj]at x0
   have hokj:okAt xs (j:Int)=true:=by simp only[okAt,atOk,hro,Bool.true_and,Bool.and_eq_true,decide_eq_true_eq];omega
   have CH:=chunkOf_in (intsAt_below HH.out hB) hl HA.out j hokj
   have ech:chRes a xs j = .tuple #[cv (uS (xs.getD j 0)) (uF (xs.getD j 0)) (uC (xs.getD j 0)) (uH (xs.getD j 0)) (uP (xs.getD j 0)) (uM (xs.getD j 0)) (piece a j (chunk xs j).toNat),.bool true]:=by unfold chRes;rw[if_neg hch]
   rw[ech]at CH
   obtain⟨pa,pn,pc,hpe⟩:∃pa pn pc,piece a j (chunk xs j).toNat = .slice pa pn pc:=⟨_,_,_,rfl⟩
   have HPD:Hid (pdOf a xs j=⟨uS (xs.getD j 0),uF (xs.getD j 0),uC (xs.getD j 0),uH (xs.getD j 0),uP (xs.getD j 0),uM (xs.getD j 0),.slice pa pn pc,j⟩):=by show pdOf a xs j=_;unfold pdOf;rw[hpe]
   have HNX:Hid (pdsOf a xs (L.take (k+1))=pdsOf a xs (L.take k)++[pdOf a xs j]):=by
    show pdsOf a xs (L.take (k+1))=_
    unfold pdsOf
    rw[List.take_add_one,List.map_append,List.getElem?_eq_getElem hlt]
    have:L[k]=(j:Int):=by rw[←hj,List.getD_eq_getElem?_getD,List.getElem?_eq_getElem hlt];rfl
    simp[this]
   rw[hpe]at CH
   rw[HPD.out]at HNX
   have hdl:(pdsOf a xs (L.take k)).length=k:=by unfold pdsOf;simp;omega
   clear hj hcy ech hpe hokj hro hch HPD
   generalize uF (xs.getD j 0)=f' at *
   generalize uS (xs.getD j 0)=s' at *
   generalize uC (xs.getD j 0)=c' at *
   generalize uH (xs.getD j 0)=g' at *
   generalize uP (xs.getD j 0)=p' at *
   generalize uM (xs.getD j 0)=m' at *
   generalize pdsOf a xs (L.take k)=ds at *
   have HOV:Hid _:=hO
   have HOL2:Hid _:=hOL
   have HB2:Hid _:=hB
   have HBK:Hid _:=hbk
   clear hO hOL hB hbk
   go_wp2_with fail
   refine CH.mono ?_
   clear CH
   rintro e w3 ⟨rfl,b3⟩
   have s3:=b3.size
   have B4:Below wr.heap.size wr (w3.alloc (cb s' f' c' g' p' m' (.slice pa pn pc))):=b3.alloc b3.size _
   have T4:=chAt_new w3 s' f' c' g' p' m' (.slice pa pn pc)
   obtain⟨t0,t1,t2,t3,t4,t5,t6,_⟩:=chAt_cells T4
   have O4:=ownP_below HOV.out B4
   have L4:=own_below HOL2.out B4
   have W4:=HB2.out.trans (B4.mono HB2.out.size)
   have s4:w3.heap.size<(w3.alloc (cb s' f' c' g' p' m' (.slice pa pn pc))).heap.size:=by simp
   obtain⟨va,vc,rfl⟩:=pds_slice (ownP_at HOV.out)
   have HDL:Hid _:=hdl
   have bdl:ds.length≤1000:=by omega
   clear hdl HOV HOL2 HB2 b3 T4
   go_upto_region 7 with fail
   generalize hY:w3.alloc (cb s' f' c' g' p' m' (.slice pa pn pc))=Y at *
   clear hY B4
   have HOA:Hid ((Y.alloc (pdb ⟨s',f',c',g',p',m',.slice pa pn pc,j⟩)).ownsRow w.heap.size 46 8 (.slice va ds.length vc) ds.length (cellsP ds)):=World.ownsRow.alloc O4 _
   have HNW:Hid _:=pd_new Y ⟨s',f',c',g',p',m',.slice pa pn pc,j⟩
   have HON:Hid (∀v ∈ cellsP [(⟨s',f',c',g',p',m',.slice pa pn pc,j⟩:Pd)],v.oneCell'=true):=cellsP_one (fun d hd=>by rw[List.mem_singleton]at hd;subst hd;exact⟨_,_,_,rfl⟩)
   have sb:w.heap.size≤(Y.alloc (pdb ⟨s',f',c',g',p',m',.slice pa pn pc,j⟩)).heap.size:=by have:=W4.size;simp;omega
   have HSTEP:Hid (∀(v':Value) (w5:World),w5.ownsRow w.heap.size 46 8 v' (ds.length+1) (cellsP ds++cellsP [(⟨s',f',c',g',p',m',.slice pa pn pc,j⟩:Pd)])→(Y.alloc (pdb ⟨s',f',c',g',p',m',.slice pa pn pc,j⟩)).grownBy w5 (Value.slice va ds.length vc).ownBlock→(v'.ownBlock=(Value.slice va ds.length vc).ownBlock∨v'.ownBlock=some (Y.alloc (pdb ⟨s',f',c',g',p',m',.slice pa pn pc,j⟩)).heap.size)→(∃a n c,v' = .slice a n c)∧OwnP w5 w.heap.size v' (pdsOf a xs (L.take (k+1)))∧(∀b,v'.ownBlock=some b→w1.heap.size≤b)∧rows.Own w5 w.heap.size (.slice (some ⟨lb,lo,none⟩) L.length lc) L∧w1.heap.size≤w5.heap.size∧Below w.heap.size w w5):=by
    intro v' w5 h1 h2 h3
    have O5:=ownP_app h1
    have hv:=pds_slice (ownP_at O5)
    have C1:Ch (blk (Value.slice va ds.length vc)) Y (Y.alloc (pdb ⟨s',f',c',g',p',m',.slice pa pn pc,j⟩)):=ch_below ((Below.refl _ _).alloc (Nat.le_refl _) _)
    have C2:=C1.trans (ch_grown h2)
    have hsz:=C2.size
    refine⟨?_,?_,?_,?_,by omega,?_⟩
    ·obtain⟨a',c',e⟩:=hv;exact⟨a',_,c',e⟩
    ·rw[HNX.out];exact O5
    ·intro b hb
     rcases h3 with h3|h3
     ·exact HBK.out b (by rw[←h3];exact hb)
     ·rw[h3]at hb;injection hb with hb;simp at hb;omega
    ·refine row_ch L4 C2 (fun q hq e => ?_)
     have q1:=HLT.out q (by unfold blk at hq;exact Option.mem_toList.1 hq)
     have q2:=HBK.out q (by unfold blk at e;exact Option.mem_toList.1 e)
     omega
    ·exact W4.trans (below_ch C2 W4.size (fun q hq=>(blk_lt O4 q hq).1))
   clear O4 L4 W4
   go_wp2_with (refine wpList_append_own_at _ rfl (.tmp 35) (.tmp 39) 53 rfl w.heap.size 46 i0 (pdv pdD) 8 72 Tryz.underlying53 HI.out.1 HI.out.2.1 HI.out.2.2.1 HI.out.2.2.2 rfl (by decide) (.slice va ds.length vc) ds.length (cellsP ds) rfl HOA.out ⟨Y.heap.size,0,none⟩ 1 1 (cellsP [(⟨s',f',c',g',p',m',.slice pa pn pc,j⟩:Pd)]) rfl rfl HNW.out HON.out (by unfold maxLen;omega) (by omega) sb ?_;intro v' w5 h1 h2 _ h3;obtain⟨⟨na,nn,nc,rfl⟩,hh⟩:=HSTEP.out v' w5 h1 h2 h3;have HFN:Hid _:=hh;clear h1 h2 h3 hh HSTEP HOA HNW HON)
   exact⟨⟨k+1,_,rfl,by omega,by go_num,HFN.out.1,HFN.out.2.1,HFN.out.2.2.1,HFN.out.2.2.2.1,HFN.out.2.2.2.2⟩,by simp[intOf];omega⟩
  ·have hlt':¬(k:Int)<(L.length:Int):=by omega
   have HF:Hid (OwnP wr w.heap.size v (pdsOf a xs L)):=by
    show OwnP _ _ _ _
    have:=hO
    rwa [List.take_of_length_le (show L.length≤k by omega)]at this
   have HBF:Hid _:=hB
   obtain⟨va,vc,rfl⟩:=pds_slice (ownP_at hO)
   clear hO hbk hOL hB
   go_wp2
   go_ret2
   exact⟨_,rfl,HF.out,HBF.out⟩
end Go.Proofs.YtemlagfaaibenaaGreat.hp
