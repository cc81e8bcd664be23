/-
  Packed, of the program and of the specification. SizeOf, of the program and of the specification. Heads in memory: a block that holds one; what is read and stored of it. What the laws do with objects and lists of them: made anew, held against one another. Lists of objects made anew, and held against
-/
import Derived.Test.YtkiognecebgaiaaGreatDoorHeadOk
import Derived.Test.YtkiognecebgaiaaGreatDoorM1
import Derived.Deep.RegionLaw
import Derived.WalkKit
import Derived.ProofKit
import Derived.OpenShut
import Derived.Test.YtkiognecebgaiaaGreatDoorM3
namespace Go.Proofs.YtkiognecebgaiaaGreatDoor.heads
open Go.RowKit
def pk (s f c h:Int) (p m:Bool):Int:=s+f*64+c*512+h*65536+(if p then 4294967296 else 0)+(if m then 8589934592 else 0)
def pkd (s f c h:Int) (p m:Bool):Int:=if hok s f c h p m=true then pk s f c h p m else -1
theorem packed_any (s f c h:Int) (p m:Bool) (w:World) :
    Calls Tryz.prog 223 #[hv s f c h p m] w fun e w'=>e = .returned (.int .i64 (pkd s f c h p m))∧w'=(w.alloc (hb s f c h p m)).alloc (hb s f c h p m):=by
 cases hk:hok s f c h p m
 ·go_enter Tryz.func223,Tryz.ntmps223
  go_wp2_with (go_at_call 137;refine (headOk_any _ _ _ _ _ _ _).mono ?_;rintro e w' ⟨rfl,rfl⟩)
  go_ret
  exact⟨by simp[pkd,hk],rfl⟩
 ·obtain⟨b1,b2,b3,b4,b5,b6,b7,b8⟩:=hok_true hk
  cases p<;>cases m
  all_goals
   go_enter Tryz.func223,Tryz.ntmps223
   go_wp2_with (go_at_call 137;refine (headOk_any _ _ _ _ _ _ _).mono ?_;rintro e w' ⟨rfl,rfl⟩)
   go_ret
   exact⟨by simp[pkd,pk,hk],rfl⟩
def sz (n:Int):Int:=if inR 0 20 n=true then n+1+(n+1) % 2 else 0
theorem sizeOf_any (n:Int) (w:World) :
    Calls Tryz.prog 218 #[.int .i64 n] w fun e w'=>e = .returned (.int .i64 (sz n))∧w'=w:=by
 have ev:∀(k:Int) (w:World),0≤k→k≤100→Calls Tryz.prog 224 #[.int .i64 k] w fun e w'=>e = .returned (.int .i64 (k+k % 2))∧w'=w:=by
  intro k w k0 k1
  go_enter Tryz.func224,Tryz.ntmps224
  go_wp2
  go_ret
  exact⟨rfl,rfl⟩
 cases i:inR 0 20 n
 ·go_enter Tryz.func218,Tryz.ntmps218
  go_wp2_with (go_at_call 159;refine (slotsInRange_any _ _).mono ?_;rintro e w' ⟨rfl,rfl⟩)
  go_ret
  exact⟨by simp[sz,i],rfl⟩
 ·obtain⟨b1,b2⟩:=inR_true i
  go_enter Tryz.func218,Tryz.ntmps218
  go_wp2_with (first|(go_at_call 159;refine (slotsInRange_any _ _).mono ?_;rintro e w' ⟨rfl,rfl⟩)|(go_at_call 224;refine (ev _ _ (by omega) (by omega)).mono ?_;rintro e w' ⟨rfl,rfl⟩))
  go_ret
  exact⟨by simp[sz,i],rfl⟩
def HeadAt (w:World) (b:Nat) (s f c h:Int) (p m:Bool):Prop:=w.heap[b]? = some (.cells #[.int .i64 s,.int .i64 f,.int .i64 c,.int .i64 h,.bool p,.bool m] 101 (0,0))
theorem headAt_cells {w:World} {b:Nat} {s f c h:Int} {p m:Bool} (hh:HeadAt w b s f c h p m) :
    w.cell? ⟨b,0,none⟩=some (.int .i64 s)∧w.cell? ⟨b,1,none⟩=some (.int .i64 f)∧w.cell? ⟨b,2,none⟩=some (.int .i64 c)∧w.cell? ⟨b,3,none⟩=some (.int .i64 h)∧w.cell? ⟨b,4,none⟩=some (.bool p)∧w.cell? ⟨b,5,none⟩=some (.bool m)∧∀k,w.frozen? ⟨b,k,none⟩=false:=by
 unfold HeadAt at hh
 refine⟨?_,?_,?_,?_,?_,?_,fun k => ?_⟩
 all_goals simp[World.cell?, World.frozen?, hh]
theorem cells_setCell {w:World} {b:Nat} {c:Array Value} {t:TypeId} (h:w.heap[b]? = some (.cells c t (0,0))) (k:Nat) (u:Value) :
    (w.setCell ⟨b,k,none⟩ u).heap[b]? = some (.cells (c.setIfInBounds k u) t (0,0)):=by
 have hlt:=lt_of_block h
 have h':w.heap[b] = .cells c t (0,0):=by simpa [Array.getElem?_eq_getElem hlt] using h
 show (w.heap.modify b _)[b]? = _
 rw[Array.getElem?_eq_getElem (by simpa using hlt),Array.getElem_modify_self,h']
 rfl
theorem headAt_alloc {w:World} {b:Nat} {s f c h:Int} {p m:Bool} (hh:HeadAt w b s f c h p m) (o:Obj):HeadAt (w.alloc o) b s f c h p m:=(Below.heap_alloc w o b (lt_of_block hh)).trans hh
theorem headAt_new (w:World) (s f c h:Int) (p m:Bool):HeadAt (w.alloc (hb s f c h p m)) w.heap.size s f c h p m:=heap_alloc_new w _
theorem headAt_set0 {w:World} {b:Nat} {s f c h:Int} {p m:Bool} (hh:HeadAt w b s f c h p m) (x:Int):HeadAt (w.setCell ⟨b,0,none⟩ (.int .i64 x)) b x f c h p m:=(cells_setCell hh 0 _).trans rfl
theorem headAt_set1 {w:World} {b:Nat} {s f c h:Int} {p m:Bool} (hh:HeadAt w b s f c h p m) (x:Int):HeadAt (w.setCell ⟨b,1,none⟩ (.int .i64 x)) b s x c h p m:=(cells_setCell hh 1 _).trans rfl
theorem headAt_set2 {w:World} {b:Nat} {s f c h:Int} {p m:Bool} (hh:HeadAt w b s f c h p m) (x:Int):HeadAt (w.setCell ⟨b,2,none⟩ (.int .i64 x)) b s f x h p m:=(cells_setCell hh 2 _).trans rfl
theorem headAt_set3 {w:World} {b:Nat} {s f c h:Int} {p m:Bool} (hh:HeadAt w b s f c h p m) (x:Int):HeadAt (w.setCell ⟨b,3,none⟩ (.int .i64 x)) b s f c x p m:=(cells_setCell hh 3 _).trans rfl
theorem headAt_set4 {w:World} {b:Nat} {s f c h:Int} {p m:Bool} (hh:HeadAt w b s f c h p m) (x:Bool):HeadAt (w.setCell ⟨b,4,none⟩ (.bool x)) b s f c h x m:=(cells_setCell hh 4 _).trans rfl
theorem headAt_set5 {w:World} {b:Nat} {s f c h:Int} {p m:Bool} (hh:HeadAt w b s f c h p m) (x:Bool):HeadAt (w.setCell ⟨b,5,none⟩ (.bool x)) b s f c h p x:=(cells_setCell hh 5 _).trans rfl
theorem res_head {fn:Func} {tmps:Array Value} {X:World} {b:Nat} {s f c h:Int} {p m:Bool} (hf:fn.results=#[.cell 2 101]) (h2:tmps[2]? = some (.pointer (some ⟨b,0,none⟩))) (hX:HeadAt X b s f c h p m) :
    (results fn tmps).run Tryz.prog X = .ok (hv s f c h p m) X:=by
 obtain⟨k0,k1,k2,k3,k4,k5,_⟩:=headAt_cells hX
 clear hX
 simp[results,hf,h2,go_sem,k0,k1,k2,k3,k4,k5]
theorem res_head_at {fn:Func} {tmps:Array Value} {X:World} {j b:Nat} {s f c h:Int} {p m:Bool} (hf:fn.results=#[.cell j 101]) (h2:tmps[j]? = some (.pointer (some ⟨b,0,none⟩))) (hX:HeadAt X b s f c h p m) :
    (results fn tmps).run Tryz.prog X = .ok (hv s f c h p m) X:=by
 obtain⟨k0,k1,k2,k3,k4,k5,_⟩:=headAt_cells hX
 clear hX
 simp[results,hf,h2,go_sem,k0,k1,k2,k3,k4,k5]
theorem headAt_below {w w':World} {b:Nat} {s f c h:Int} {p m:Bool} (T:HeadAt w b s f c h p m) (hb:Below w.heap.size w w'):HeadAt w' b s f c h p m:=(hb.block b (lt_of_block T)).trans T
theorem six_set {X:World} {b:Nat} {s' f' c' h':Int} {p' m':Bool} (T:HeadAt X b s' f' c' h' p' m') (s f c h:Int) (p m:Bool) :
    HeadAt ((((((X.setCell ⟨b,0,none⟩ (.int .i64 s)).setCell ⟨b,1,none⟩ (.int .i64 f)).setCell ⟨b,2,none⟩ (.int .i64 c)).setCell ⟨b,3,none⟩ (.int .i64 h)).setCell ⟨b,4,none⟩ (.bool p)).setCell ⟨b,5,none⟩ (.bool m)) b s f c h p m:=
 headAt_set5 (headAt_set4 (headAt_set3 (headAt_set2 (headAt_set1 (headAt_set0 T _) _) _) _) _) _
theorem six_below {n:Nat} {w X:World} {b:Nat} (hB:Below n w X) (hb:n≤b) (s f c h:Int) (p m:Bool):Below n w ((((((X.setCell ⟨b,0,none⟩ (.int .i64 s)).setCell ⟨b,1,none⟩ (.int .i64 f)).setCell ⟨b,2,none⟩ (.int .i64 c)).setCell ⟨b,3,none⟩ (.int .i64 h)).setCell ⟨b,4,none⟩ (.bool p)).setCell ⟨b,5,none⟩ (.bool m)):=
 (((((hB.setCell (p:=⟨b,0,none⟩) hb _).setCell (p:=⟨b,1,none⟩) hb _).setCell (p:=⟨b,2,none⟩) hb _).setCell (p:=⟨b,3,none⟩) hb _).setCell (p:=⟨b,4,none⟩) hb _).setCell (p:=⟨b,5,none⟩) hb _
end Go.Proofs.YtkiognecebgaiaaGreatDoor.heads
namespace Go.Proofs.YtkiognecebgaiaaGreatDoor.gr
open Go.RowKit rows heads
set_option maxRecDepth 100000
theorem infoO:(Tryz.prog.info? 47).map (fun i=>(i.zero,i.size,i.bytes))=some (some (.agg #[.int .i64 0,.int .i64 0,.int .i64 0,.int .i64 0,.slice none 0 0]),5,56):=by kernel_rfl
def Five (w:World) (b:Nat) (t:TypeId) (c0 c1 c2 c3 c4:Value):Prop:=w.heap[b]? = some (.cells #[c0,c1,c2,c3,c4] t (0,0))
theorem five_cells {w:World} {b:Nat} {t:TypeId} {c0 c1 c2 c3 c4:Value} (h:Five w b t c0 c1 c2 c3 c4):w.cell? ⟨b,0,none⟩=some c0∧w.cell? ⟨b,1,none⟩=some c1∧w.cell? ⟨b,2,none⟩=some c2∧w.cell? ⟨b,3,none⟩=some c3∧w.cell? ⟨b,4,none⟩=some c4∧∀k,w.frozen? ⟨b,k,none⟩=false:=by
 unfold Five at h
 refine⟨?_,?_,?_,?_,?_,fun k => ?_⟩
 all_goals simp[World.cell?, World.frozen?, h]
theorem five_below {w w':World} {b:Nat} {t:TypeId} {c0 c1 c2 c3 c4:Value} (h:Five w b t c0 c1 c2 c3 c4) (hb:Below w.heap.size w w'):Five w' b t c0 c1 c2 c3 c4:=(hb.block b (lt_of_block h)).trans h
theorem five_new (w:World) (t:TypeId) (c0 c1 c2 c3 c4:Value):Five (w.alloc (.cells #[c0,c1,c2,c3,c4] t)) w.heap.size t c0 c1 c2 c3 c4:=heap_alloc_new w _
theorem five_set0 {w:World} {b:Nat} {t:TypeId} {c0 c1 c2 c3 c4:Value} (h:Five w b t c0 c1 c2 c3 c4) (u:Value):Five (w.setCell ⟨b,0,none⟩ u) b t u c1 c2 c3 c4:=(cells_setCell h 0 u).trans (by simp)
theorem five_set1 {w:World} {b:Nat} {t:TypeId} {c0 c1 c2 c3 c4:Value} (h:Five w b t c0 c1 c2 c3 c4) (u:Value):Five (w.setCell ⟨b,1,none⟩ u) b t c0 u c2 c3 c4:=(cells_setCell h 1 u).trans (by simp)
theorem five_set2 {w:World} {b:Nat} {t:TypeId} {c0 c1 c2 c3 c4:Value} (h:Five w b t c0 c1 c2 c3 c4) (u:Value):Five (w.setCell ⟨b,2,none⟩ u) b t c0 c1 u c3 c4:=(cells_setCell h 2 u).trans (by simp)
theorem five_set3 {w:World} {b:Nat} {t:TypeId} {c0 c1 c2 c3 c4:Value} (h:Five w b t c0 c1 c2 c3 c4) (u:Value):Five (w.setCell ⟨b,3,none⟩ u) b t c0 c1 c2 u c4:=(cells_setCell h 3 u).trans (by simp)
theorem five_set4 {w:World} {b:Nat} {t:TypeId} {c0 c1 c2 c3 c4:Value} (h:Five w b t c0 c1 c2 c3 c4) (u:Value):Five (w.setCell ⟨b,4,none⟩ u) b t c0 c1 c2 c3 u:=(cells_setCell h 4 u).trans (by simp)
theorem five_sets {w:World} {b:Nat} {t:TypeId} {c0 c1 c2 c3 c4:Value} (h:Five w b t c0 c1 c2 c3 c4) (u0 u1 u2 u3 u4:Value):Five (((((w.setCell ⟨b,0,none⟩ u0).setCell ⟨b,1,none⟩ u1).setCell ⟨b,2,none⟩ u2).setCell ⟨b,3,none⟩ u3).setCell ⟨b,4,none⟩ u4) b t u0 u1 u2 u3 u4:=
 five_set4 (five_set3 (five_set2 (five_set1 (five_set0 h _) _) _) _) _
theorem five_belows {n:Nat} {w X:World} {b:Nat} (hB:Below n w X) (hb:n≤b) (u0 u1 u2 u3 u4:Value):Below n w (((((X.setCell ⟨b,0,none⟩ u0).setCell ⟨b,1,none⟩ u1).setCell ⟨b,2,none⟩ u2).setCell ⟨b,3,none⟩ u3).setCell ⟨b,4,none⟩ u4):=
 ((((hB.setCell (p:=⟨b,0,none⟩) hb _).setCell (p:=⟨b,1,none⟩) hb _).setCell (p:=⟨b,2,none⟩) hb _).setCell (p:=⟨b,3,none⟩) hb _).setCell (p:=⟨b,4,none⟩) hb _
theorem five_other {X:World} {b:Nat} (u0 u1 u2 u3 u4:Value):Ch [b] X (((((X.setCell ⟨b,0,none⟩ u0).setCell ⟨b,1,none⟩ u1).setCell ⟨b,2,none⟩ u2).setCell ⟨b,3,none⟩ u3).setCell ⟨b,4,none⟩ u4):=by
 have one:∀(Y:World) (k:Nat) (u:Value),Ch [b] Y (Y.setCell ⟨b,k,none⟩ u):=fun Y k u=>⟨rfl,rfl,rfl,by simp,fun j _ hn=>Below.heap_setCell Y _ u j (fun e=>hn (by simp[e]))⟩
 exact ((((one _ 0 _).trans (one _ 1 _)).trans (one _ 2 _)).trans (one _ 3 _)).trans (one _ 4 _)
theorem res_five {fn:Func} {tmps:Array Value} {X:World} {j b:Nat} {x0 x1 x2 x3:Int} {a:Option Addr} {n c:Nat} (hf:fn.results=#[.cell j 47]) (h2:tmps[j]? = some (.pointer (some ⟨b,0,none⟩))) (hX:Five X b 47 (.int .i64 x0) (.int .i64 x1) (.int .i64 x2) (.int .i64 x3) (.slice a n c)) :
    (results fn tmps).run Tryz.prog X = .ok (.agg #[.int .i64 x0,.int .i64 x1,.int .i64 x2,.int .i64 x3,.slice a n c]) X:=by
 obtain⟨k0,k1,k2,k3,k4,_⟩:=five_cells hX
 clear hX
 simp[results,hf,h2,go_sem,k0,k1,k2,k3,k4]
set_option maxHeartbeats 4000000 in
theorem toObj_any {w:World} (m:MO) (h:RefsAt w m.sv m.slots) (hl:m.slots.length≤1048576) :
    Calls Tryz.prog 102 #[ov m] w fun e w'=>∃q,w.heap.size≤q∧e = .returned (ov { m with sv:=.slice (some ⟨q,0,none⟩) m.slots.length m.slots.length })∧FullR w' q m.slots∧Below w.heap.size w w':=by
 obtain⟨x0,x1,x2,x3,sv,es⟩:=m
 obtain⟨a,cap,hsv,h1,h2,h4,h3⟩:=h
 have h:RefsAt w sv es:=⟨a,cap,hsv,h1,h2,h4,h3⟩
 clear h1 h2 h4 h3
 have hsv:sv = .slice a es.length cap:=hsv
 subst hsv
 obtain⟨X,hX⟩:∃X,X=((w.alloc (.cells #[.int .i64 x0,.int .i64 x1,.int .i64 x2,.int .i64 x3,.slice a es.length cap] 141)).alloc (.cells #[.int .i64 0,.int .i64 0,.int .i64 0,.int .i64 0,.slice none 0 0] 47)).alloc (.cells #[.int .i64 x0,.int .i64 x1,.int .i64 x2,.int .i64 x3,.slice none 0 0] 47):=⟨_,rfl⟩
 have HX:Hid _:=hX
 have BX:Below w.heap.size w X:=by
  rw[hX]
  exact (((Below.refl _ w).alloc (Nat.le_refl _) _).alloc (by simp) _).alloc (by simp;omega) _
 have sX:X.heap.size=w.heap.size+3:=by rw[hX];simp
 have T2:Five X (w.heap.size+1) 47 (.int .i64 0) (.int .i64 0) (.int .i64 0) (.int .i64 0) (.slice none 0 0):=by
  rw[hX]
  have:=five_new (w.alloc (.cells #[.int .i64 x0,.int .i64 x1,.int .i64 x2,.int .i64 x3,.slice a es.length cap] 141)) 47 (.int .i64 0) (.int .i64 0) (.int .i64 0) (.int .i64 0) (.slice none 0 0)
  have:=five_below this ((Below.refl _ _).alloc (Nat.le_refl _) (.cells #[.int .i64 x0,.int .i64 x1,.int .i64 x2,.int .i64 x3,.slice none 0 0] 47))
  simpa using this
 have T3:Five X (w.heap.size+2) 47 (.int .i64 x0) (.int .i64 x1) (.int .i64 x2) (.int .i64 x3) (.slice none 0 0):=by
  rw[hX]
  have:=five_new ((w.alloc (.cells #[.int .i64 x0,.int .i64 x1,.int .i64 x2,.int .i64 x3,.slice a es.length cap] 141)).alloc (.cells #[.int .i64 0,.int .i64 0,.int .i64 0,.int .i64 0,.slice none 0 0] 47)) 47 (.int .i64 x0) (.int .i64 x1) (.int .i64 x2) (.int .i64 x3) (.slice none 0 0)
  simpa using this
 have TR:=toRefS_any (refsAt_below h BX) hl
 clear hX h
 go_enter Tryz.func102,Tryz.ntmps102
 go_wp2_with fail
 rw[←HX.out]
 refine TR.mono ?_
 rintro e w2 ⟨rfl,F2,b2⟩
 have U2:=five_below T2 b2
 have U3:=five_below T3 b2
 have s2:=b2.size
 have hq:w.heap.size≤X.heap.size:=by omega
 have l2:w.heap.size≤w.heap.size+1:=by omega
 have l3:w.heap.size≤w.heap.size+1+1:=by omega
 have n23:w.heap.size+1≠w.heap.size+1+1:=by omega
 have n2q:X.heap.size ∉ [w.heap.size+1]:=by simp;omega
 have n3q:X.heap.size ∉ [w.heap.size+1+1]:=by simp;omega
 have B2:=BX.trans (b2.mono hq)
 have lq:=lt_of_block F2
 obtain⟨k0,k1,k2,k3,k4,kf⟩:=five_cells U2
 obtain⟨j0,j1,j2,j3,j4,jf⟩:=five_cells U3
 have f4:=jf 4
 have z0:=kf 0
 have z1:=kf 1
 have z2:=kf 2
 have z3:=kf 3
 have z4:=kf 4
 have HU2:Hid _:=U2
 have HF2:Hid _:=F2
 have HB2:Hid _:=B2
 clear U2 U3 T2 T3 TR HX BX b2 F2 B2 kf jf sX s2
 generalize X.heap.size=q at *
 generalize hb3:w.heap.size+1+1=B3 at *
 generalize hb2:w.heap.size+1=B2 at *
 go_wp2
 have V2:Five (w2.setCell ⟨B3,4,none⟩ (.slice (some ⟨q,0,none⟩) es.length es.length)) B2 47 (.int .i64 0) (.int .i64 0) (.int .i64 0) (.int .i64 0) (.slice none 0 0):=(Below.heap_setCell w2 ⟨B3,4,none⟩ _ B2 n23).trans HU2.out
 have V3:FullR (w2.setCell ⟨B3,4,none⟩ (.slice (some ⟨q,0,none⟩) es.length es.length)) q es:=(Below.heap_setCell w2 ⟨B3,4,none⟩ _ q (by simpa using n3q)).trans HF2.out
 exact bodyPost_ret (res_five rfl rfl (five_sets V2 (.int .i64 x0) (.int .i64 x1) (.int .i64 x2) (.int .i64 x3) (.slice (some ⟨q,0,none⟩) es.length es.length))) rfl ⟨q,hq,rfl,((five_other _ _ _ _ _).block q (by simpa using lq) n2q).trans V3,five_belows (HB2.out.setCell (p:=⟨B3,4,none⟩) l3 _) l2 _ _ _ _ _⟩
def FullO (w:World) (b:Nat) (ms:List MO):Prop:=w.heap[b]? = some (.cells (cellsO ms).toArray 47 (0,0))
theorem fullO_own {w:World} {b base:Nat} {ms:List MO} (h:FullO w b ms) (hb:base≤b) (hm:ms.length≤maxLen):OwnRow w base (.slice (some ⟨b,0,none⟩) ms.length ms.length) ms:=
 ⟨cellsO_length ms,.inr ⟨b,ms.length,_,rfl,hb,h,Nat.le_refl _,hm,by simp[cellsO_length],List.take_of_length_le (by simp[cellsO_length])⟩⟩
theorem fullO_below {w w':World} {b:Nat} {ms:List MO} (h:FullO w b ms) (hb:Below w.heap.size w w'):FullO w' b ms:=(hb.block b (lt_of_block h)).trans h
theorem fullO_cell {w:World} {b:Nat} {ms:List MO} (h:FullO w b ms) {i:Nat} (hi:i<ms.length):w.cell? ⟨b,i*5,none⟩=some (.int .i64 (ms.getD i moD).id)∧w.cell? ⟨b,i*5+1,none⟩=some (.int .i64 (ms.getD i moD).cls)∧w.cell? ⟨b,i*5+2,none⟩=some (.int .i64 (ms.getD i moD).fmt)∧w.cell? ⟨b,i*5+3,none⟩=some (.int .i64 (ms.getD i moD).hash)∧w.cell? ⟨b,i*5+4,none⟩=some (ms.getD i moD).sv:=by
 obtain⟨c0,c1,c2,c3,c4⟩:=cellsO_at ms i hi
 unfold FullO at h
 refine⟨?_,?_,?_,?_,?_⟩
 all_goals simp[World.cell?, h]
 ·exact c0
 ·exact c1
 ·exact c2
 ·exact c3
 ·exact c4
theorem fullO_frozen {w:World} {b:Nat} {ms:List MO} (h:FullO w b ms) (i:Nat):w.frozen? ⟨b,i,none⟩=false:=by
 unfold FullO at h
 simp[World.frozen?, h]
theorem fullO_set {w:World} {b:Nat} {ms:List MO} (h:FullO w b ms) (i:Nat) (m:MO):FullO (((((w.setCell ⟨b,i*5,none⟩ (.int .i64 m.id)).setCell ⟨b,i*5+1,none⟩ (.int .i64 m.cls)).setCell ⟨b,i*5+2,none⟩ (.int .i64 m.fmt)).setCell ⟨b,i*5+3,none⟩ (.int .i64 m.hash)).setCell ⟨b,i*5+4,none⟩ m.sv) b (ms.set i m):=by
 have h1:=cells_setCell h (i*5) (.int .i64 m.id)
 have h2:=cells_setCell h1 (i*5+1) (.int .i64 m.cls)
 have h3:=cells_setCell h2 (i*5+2) (.int .i64 m.fmt)
 have h4:=cells_setCell h3 (i*5+3) (.int .i64 m.hash)
 have h5:=cells_setCell h4 (i*5+4) m.sv
 refine h5.trans ?_
 rw[←cellsO_set ms i m]
 simp
abbrev put5 (X:World) (b k:Nat) (m:MO):World:=((((X.setCell ⟨b,k*5,none⟩ (.int .i64 m.id)).setCell ⟨b,k*5+1,none⟩ (.int .i64 m.cls)).setCell ⟨b,k*5+2,none⟩ (.int .i64 m.fmt)).setCell ⟨b,k*5+3,none⟩ (.int .i64 m.hash)).setCell ⟨b,k*5+4,none⟩ m.sv
theorem sets_ch {X:World} {b k0 k1 k2 k3 k4:Nat} (u0 u1 u2 u3 u4:Value):Ch [b] X (((((X.setCell ⟨b,k0,none⟩ u0).setCell ⟨b,k1,none⟩ u1).setCell ⟨b,k2,none⟩ u2).setCell ⟨b,k3,none⟩ u3).setCell ⟨b,k4,none⟩ u4):=by
 have one:∀(Y:World) (k:Nat) (u:Value),Ch [b] Y (Y.setCell ⟨b,k,none⟩ u):=fun Y k u=>⟨rfl,rfl,rfl,by simp,fun j _ hn=>Below.heap_setCell Y _ u j (fun e=>hn (by simp[e]))⟩
 exact ((((one _ k0 _).trans (one _ k1 _)).trans (one _ k2 _)).trans (one _ k3 _)).trans (one _ k4 _)
theorem setM_snoc {rs:List MO} {n:Nat} (m:MO) (h:rs.length<n):(rs++List.replicate (n-rs.length) moD).set rs.length m=(rs++[m])++List.replicate (n-(rs.length+1)) moD:=by
 rw[List.set_append_right _ _ (Nat.le_refl _),Nat.sub_self]
 obtain⟨d,hd⟩:∃d,n-rs.length=d+1:=⟨n-rs.length-1,by omega⟩
 rw[hd,List.replicate_succ,show n-(rs.length+1)=d by omega]
 simp
theorem made_objs (n:Nat):(madeCells #[Value.int .i64 0,.int .i64 0,.int .i64 0,.int .i64 0,.slice none 0 0] (n*5)).toList=cellsO (List.replicate n moD):=by
 unfold madeCells
 rw[Array.toList_map,Array.toList_range]
 induction n with
 |zero=>rfl
 |succ n ih=>
  rw[show (n+1)*5=n*5+1+1+1+1+1 by omega,List.range_succ,List.range_succ,List.range_succ,List.range_succ,List.range_succ,List.replicate_succ',cellsO_append,←ih]
  have h0:n*5 % 5=0:=by omega
  have h1:(n*5+1) % 5=1:=by omega
  have h2:(n*5+1+1) % 5=2:=by omega
  have h3:(n*5+1+1+1) % 5=3:=by omega
  have h4:(n*5+1+1+1+1) % 5=4:=by omega
  simp[cellsO,h0,h1,h2,h3,h4]
theorem full_of_made {w:World} {base g n:Nat} {cs:List Value} {ms:List MO} (h:w.ownsRow base 47 5 (.slice (some ⟨g,0,none⟩) n n) n cs) (hcs:cs=cellsO ms):FullO w g ms:=by
 subst hcs
 obtain⟨h0,⟨h1,_⟩|⟨g',cap,cur,h1,hg,hh,hle,hm,hs,ht⟩⟩:=h
 ·cases h1
 ·injection h1 with e1 e2 e3
  injection e1 with e1
  injection e1 with e1
  subst e1 e3
  unfold FullO
  rw[hh]
  rw[List.take_of_length_le (by simpa using Nat.le_of_eq hs)]at ht
  rw[←ht]
theorem blks_append (ms ns:List MO):blks (ms++ns)=blks ms++blks ns:=by simp[blks]
theorem take_succM {ms:List MO} {k:Nat} (h:k<ms.length):ms.take (k+1)=ms.take k++[ms.getD k moD]:=by
 rw[List.take_add_one,List.getD_eq_getElem?_getD,List.getElem?_eq_getElem h]
 rfl
set_option maxHeartbeats 4000000 in
theorem toObjS_any {w:World} {v:Value} {ms:List MO} (h:ObjsAt w v ms) (hl:ms.length≤1048576) (hsl:∀m ∈ ms,m.slots.length≤1048576) :
    Calls Tryz.prog 66 #[v] w fun e w'=>∃(u:Value) (rs:List MO),e = .returned u∧rs.map MO.abs=ms.map MO.abs∧OwnO w' w.heap.size u rs∧Below w.heap.size w w':=by
 obtain⟨⟨a,cap,rfl,hlc,hcm,_,hc⟩,hrefs⟩:=h
 obtain⟨i0,hi,hz0,hz1,hz2⟩:=info_parts infoO
 have HC:Hid _:=hc
 have HRF:Hid _:=hrefs
 clear hc hrefs
 go_enter Tryz.func66,Tryz.ntmps66
 go_wp2_with (at_make;refine wpList_make_full _ rfl _ _ 24 rfl w.heap.size 47 i0 (.agg #[.int .i64 0,.int .i64 0,.int .i64 0,.int .i64 0,.slice none 0 0]) 5 Tryz.underlying24 hi hz0 hz1 _ _ _ _ ms.length rfl rfl rfl rfl (by rw[hz2];omega) (by unfold maxLen;omega) (Nat.le_refl _) ?_;intro w1 hown hgrow)
 have F:FullO w1 w.heap.size ([]++List.replicate (ms.length-0) moD):=full_of_made hown (by simpa [Value.cells] using made_objs ms.length)
 have B:Below w.heap.size w w1:=(Below.refl _ _).grown hgrow (Nat.le_refl _) (fun k e=>by cases e)
 clear hown hgrow hi hz0 hz1 hz2
 go_loopw [4] (fun i wr=>∃rs:List MO,rs.length≤ms.length∧i = .int .i64 (rs.length:Nat)∧rs.map MO.abs=(ms.take rs.length).map MO.abs∧FullO wr w.heap.size (rs++List.replicate (ms.length-rs.length) moD)∧(∀m ∈ rs,OwnR wr w.heap.size m.sv m.slots)∧(w.heap.size :: blks rs).Nodup∧Below w.heap.size w wr) (fun i _=>ms.length-(intOf i).toNat)
 case atStart=>exact⟨[],Nat.zero_le _,rfl,rfl,F,(fun m hm=>by cases hm),by simp[blks],B⟩
 case round=>
  obtain⟨rs,hk,rfl,hab,Fr,Or,Nr,Br⟩:=hrel
  clear F B
  by_cases hlt:rs.length<ms.length
  ·obtain⟨b,off,rfl,hb,hc⟩:=HC.out (by omega)
   obtain⟨q0,q1,q2,q3,q4⟩:=hc rs.length hlt
   have c0:=(Br.cell (p:=⟨b,off+rs.length*5,none⟩) hb).trans q0
   have c1:=(Br.cell (p:=⟨b,off+rs.length*5+1,none⟩) hb).trans q1
   have c2:=(Br.cell (p:=⟨b,off+rs.length*5+2,none⟩) hb).trans q2
   have c3:=(Br.cell (p:=⟨b,off+rs.length*5+3,none⟩) hb).trans q3
   have c4:=(Br.cell (p:=⟨b,off+rs.length*5+4,none⟩) hb).trans q4
   have hmem:=mem_getD hlt
   have T:=toObj_any (w:=wr) (ms.getD rs.length moD) (refsAt_below (HRF.out _ hmem) ⟨Br.os,Br.tape,Br.output,Br.size,Br.block⟩) (hsl _ hmem)
   have hsl':=hsl _ hmem
   have ts:=take_succM hlt
   have lt0:=lt_of_block Fr
   obtain⟨a1,n1,cc1,esv⟩:=refs_slice (HRF.out _ hmem)
   have HAB:Hid _:=hab
   have HTS:Hid _:=ts
   have HFr:Hid _:=Fr
   have HOr:Hid _:=Or
   have HN1:Hid _:=(List.nodup_cons.1 Nr).1
   have HN2:Hid _:=(List.nodup_cons.1 Nr).2
   have HBr:Hid _:=Br
   clear hc HC HRF q0 q1 q2 q3 q4 hab ts Fr Or Nr Br hmem
   generalize ms.getD rs.length moD=x at *
   obtain⟨x0,x1,x2,x3,sv,es⟩:=x
   have esv:sv = .slice a1 n1 cc1:=esv
   subst esv
   go_wp2_with fail
   refine T.mono ?_
   rintro e w2 ⟨q,hq,rfl,F2,b2⟩
   obtain⟨m',hm'⟩:∃m':MO,m'=⟨x0,x1,x2,x3,.slice (some ⟨q,0,none⟩) es.length es.length,es⟩:=⟨_,rfl⟩
   have FF:=fullO_below HFr.out b2
   have hfit:rs.length<(rs++List.replicate (ms.length-rs.length) moD).length:=by simp;omega
   obtain⟨d0,d1,d2,d3,d4⟩:=fullO_cell FF hfit
   have f0:=fullO_frozen FF (rs.length*5)
   have f1:=fullO_frozen FF (rs.length*5+1)
   have f2:=fullO_frozen FF (rs.length*5+2)
   have f3:=fullO_frozen FF (rs.length*5+3)
   have f4:=fullO_frozen FF (rs.length*5+4)
   have F3:=fullO_set FF rs.length m'
   rw[setM_snoc m' hlt]at F3
   have CH:=sets_ch (X:=w2) (b:=w.heap.size) (k0:=rs.length*5) (k1:=rs.length*5+1) (k2:=rs.length*5+2) (k3:=rs.length*5+3) (k4:=rs.length*5+4) (.int .i64 m'.id) (.int .i64 m'.cls) (.int .i64 m'.fmt) (.int .i64 m'.hash) m'.sv
   have B3:=((((((HBr.out.trans (b2.mono HBr.out.size)).setCell (p:=⟨w.heap.size,rs.length*5,none⟩) (Nat.le_refl _) (.int .i64 m'.id)).setCell (p:=⟨w.heap.size,rs.length*5+1,none⟩) (Nat.le_refl _) (.int .i64 m'.cls)).setCell (p:=⟨w.heap.size,rs.length*5+2,none⟩) (Nat.le_refl _) (.int .i64 m'.fmt)).setCell (p:=⟨w.heap.size,rs.length*5+3,none⟩) (Nat.le_refl _) (.int .i64 m'.hash)).setCell (p:=⟨w.heap.size,rs.length*5+4,none⟩) (Nat.le_refl _) m'.sv)
   have hNr:w.heap.size ∉ blks rs∧(blks rs).Nodup:=⟨HN1.out,HN2.out⟩
   have hwq:w.heap.size<q:=by omega
   have elen:es.length≤1048576:=by
    have:=hsl'
    simpa using this
   have O3:∀m ∈ rs++[m'],OwnR (put5 w2 w.heap.size rs.length m') w.heap.size m.sv m.slots:=by
    intro m hm
    rw[List.mem_append,List.mem_singleton]at hm
    rcases hm with hm|rfl
    ·refine row_ch (ownR_below (HOr.out m hm) b2) CH (fun k hk e => ?_)
     rw[List.mem_singleton]at e
     subst e
     exact hNr.1 (by simp only[blks,List.mem_flatMap];exact⟨m,hm,hk⟩)
    ·rw[hm']
     refine row_ch (fullR_own F2 (by omega) (by unfold maxLen;omega)) (hm'▸CH) (fun k hk e => ?_)
     simp only[blk,Value.ownBlock,Option.toList,List.mem_singleton]at hk e
     omega
   have N3:(w.heap.size :: blks (rs++[m'])).Nodup:=by
    have hq':∀k ∈ blks rs,k<q:=by
     intro k hk
     simp only[blks,List.mem_flatMap]at hk
     obtain⟨m,hm,hk⟩:=hk
     have:=(blk_lt (HOr.out m hm) k hk).2
     omega
    have eb:blks [m']=[q]:=by rw[hm'];simp[blks,blk,Value.ownBlock]
    rw[blks_append,eb,List.nodup_cons]
    refine⟨?_,?_⟩
    ·rw[List.mem_append,List.mem_singleton]
     rintro (h1|h1)
     ·exact hNr.1 h1
     ·omega
    ·rw[List.nodup_append]
     refine⟨hNr.2,by simp,fun x hx y hy => ?_⟩
     rw[List.mem_singleton]at hy
     have:=hq' x hx
     omega
   have A3:(rs++[m']).map MO.abs=(ms.take (rs++[m']).length).map MO.abs:=by
    rw[List.length_append,List.length_singleton,HTS.out,List.map_append,List.map_append,HAB.out,hm']
    rfl
   have HF3:Hid _:=F3
   have HB3:Hid _:=B3
   have HO3:Hid _:=O3
   have HN3:Hid _:=N3
   have HA3:Hid _:=A3
   have HL3:Hid ((rs++[m']).length=rs.length+1):=by show _=_;simp
   clear F3 B3 O3 N3 A3 FF CH T HAB HTS HFr HOr HN1 HN2 HBr b2 F2 hNr
   subst hm'
   generalize ((rs++List.replicate (ms.length-rs.length) moD).getD rs.length moD)=y at *
   obtain⟨y0,y1,y2,y3,yv,ys⟩:=y
   go_wp2
   exact⟨⟨rs++[(MO.mk x0 x1 x2 x3 (.slice (some ⟨q,0,none⟩) es.length es.length) es)],by rw[HL3.out];omega,by rw[HL3.out];go_num,HA3.out,by rw[HL3.out];exact HF3.out,HO3.out,HN3.out,HB3.out⟩,by simp[intOf];omega⟩
  ·have e:rs.length=ms.length:=by omega
   have O:OwnO wr w.heap.size (.slice (some ⟨w.heap.size,0,none⟩) ms.length ms.length) rs:=by
    have F0:FullO wr w.heap.size rs:=by
     rw[e]at Fr
     simpa using Fr
    have:=fullO_own (base:=w.heap.size) F0 (Nat.le_refl _) (by unfold maxLen;omega)
    rw[e]at this
    refine⟨this,Or,?_⟩
    have eb:blk (Value.slice (some ⟨w.heap.size,0,none⟩) ms.length ms.length)=[w.heap.size]:=rfl
    rw[eb]
    simpa using Nr
   have A:rs.map MO.abs=ms.map MO.abs:=by
    rw[hab,e,List.take_length]
   have HO:Hid _:=O
   have HA:Hid _:=A
   have HB:Hid _:=Br
   clear O A Br Fr Or Nr hab HC HRF
   go_wp2
   go_ret
   exact⟨_,rs,rfl,HA,HO,HB⟩
set_option maxHeartbeats 4000000 in
theorem eqObj_same {w:World} (m n:MO) (he:m.abs=n.abs) (h1:RefsAt w m.sv m.slots) (h2:RefsAt w n.sv n.slots) (hl:m.slots.length≤1048576) :
    Calls Tryz.prog 106 #[ov m,ov n] w fun e w'=>e = .returned (.bool true)∧Below w.heap.size w w':=by
 obtain⟨x0,x1,x2,x3,sv,es⟩:=m
 obtain⟨y0,y1,y2,y3,tv,fs⟩:=n
 injection he with e0 e1 e2 e3 e4
 have e0:x0=y0:=e0
 have e1:x1=y1:=e1
 have e2:x2=y2:=e2
 have e3:x3=y3:=e3
 have e4:es=fs:=e4
 subst e0 e1 e2 e3 e4
 have B:Below w.heap.size w ((w.alloc (ob ⟨x0,x1,x2,x3,sv,es⟩)).alloc (ob ⟨x0,x1,x2,x3,tv,es⟩)):=((Below.refl _ w).alloc (Nat.le_refl _) _).alloc (by simp) _
 have EQ:=eqRefS_same (refsAt_below h1 B) (refsAt_below h2 B) hl
 obtain⟨a1,n1,cc1,esv⟩:=refs_slice h1
 obtain⟨a2,n2,cc2,etv⟩:=refs_slice h2
 have esv:sv = .slice a1 n1 cc1:=esv
 have etv:tv = .slice a2 n2 cc2:=etv
 subst esv etv
 have i0:(x0 != x0)=false:=by simp
 have i1:(x1 != x1)=false:=by simp
 have i2:(x2 != x2)=false:=by simp
 have i3:(x3 != x3)=false:=by simp
 have HB:Hid _:=B
 clear B h1 h2
 go_enter Tryz.func106,Tryz.ntmps106
 go_wp2_with (go_at_call 71;refine EQ.mono ?_;rintro e w2 ⟨rfl,b2⟩;have HB2:Hid _:=HB.out.trans (b2.mono HB.out.size);clear b2 EQ)
 go_ret
 exact⟨rfl,HB2⟩
theorem abs_len {ms ns:List MO} (h:ms.map MO.abs=ns.map MO.abs):ms.length=ns.length:=by simpa using congrArg List.length h
theorem abs_at {ms ns:List MO} (h:ms.map MO.abs=ns.map MO.abs) (i:Nat):(ms.getD i moD).abs=(ns.getD i moD).abs:=by
 rw[←abs_getD,←abs_getD,h]
set_option maxHeartbeats 4000000 in
theorem eqObjS_same {w:World} {v1 v2:Value} {ms ns:List MO} (he:ms.map MO.abs=ns.map MO.abs) (h1:ObjsAt w v1 ms) (h2:ObjsAt w v2 ns) (hsl:∀m ∈ ms,m.slots.length≤1048576) :
    Calls Tryz.prog 70 #[v1,v2] w fun e w'=>e = .returned (.bool true)∧Below w.heap.size w w':=by
 have hlen:=abs_len he
 obtain⟨⟨a,cap,rfl,hlc,hcm,_,hc⟩,hrf⟩:=h1
 obtain⟨⟨a',cap',rfl,hlc',hcm',_,hc'⟩,hrf'⟩:=h2
 rw[←hlen]at *
 have hcb:cap≤9223372036854775807:=hcm
 have HC:Hid _:=hc
 have HC':Hid _:=hc'
 have HR:Hid _:=hrf
 have HR':Hid _:=hrf'
 clear hc hc' hrf hrf' hlen
 go_enter Tryz.func70,Tryz.ntmps70
 go_wp2_with fail
 go_loopw [5] (fun i wr=>∃k:Nat,k≤ms.length∧i = .int .i64 k∧Below w.heap.size w wr) (fun i _=>ms.length-(intOf i).toNat)
 case atStart=>exact⟨0,Nat.zero_le _,rfl,Below.refl _ _⟩
 case round=>
  obtain⟨k,hk,rfl,Br⟩:=hrel
  by_cases hlt:k<ms.length
  ·obtain⟨b,off,rfl,hb,hc⟩:=HC.out (by omega)
   obtain⟨b',off',rfl,hb',hc'⟩:=HC'.out (by omega)
   obtain⟨q0,q1,q2,q3,q4⟩:=hc k hlt
   obtain⟨p0,p1,p2,p3,p4⟩:=hc' k hlt
   have c0:=(Br.cell (p:=⟨b,off+k*5,none⟩) hb).trans q0
   have c1:=(Br.cell (p:=⟨b,off+k*5+1,none⟩) hb).trans q1
   have c2:=(Br.cell (p:=⟨b,off+k*5+2,none⟩) hb).trans q2
   have c3:=(Br.cell (p:=⟨b,off+k*5+3,none⟩) hb).trans q3
   have c4:=(Br.cell (p:=⟨b,off+k*5+4,none⟩) hb).trans q4
   have d0:=(Br.cell (p:=⟨b',off'+k*5,none⟩) hb').trans p0
   have d1:=(Br.cell (p:=⟨b',off'+k*5+1,none⟩) hb').trans p1
   have d2:=(Br.cell (p:=⟨b',off'+k*5+2,none⟩) hb').trans p2
   have d3:=(Br.cell (p:=⟨b',off'+k*5+3,none⟩) hb').trans p3
   have d4:=(Br.cell (p:=⟨b',off'+k*5+4,none⟩) hb').trans p4
   have m1:=mem_getD hlt
   have m2:ns.getD k moD ∈ ns:=mem_getD (by have:=abs_len he;omega)
   have D:Below w.heap.size w wr.drew:=Br.drew
   have E:=eqObj_same (w:=wr.drew) (ms.getD k moD) (ns.getD k moD) (abs_at he k) (refsAt_below (HR.out _ m1) D) (refsAt_below (HR'.out _ m2) D) (hsl _ m1)
   obtain⟨a1,n1,cc1,esv⟩:=refs_slice (HR.out _ m1)
   obtain⟨a2,n2,cc2,etv⟩:=refs_slice (HR'.out _ m2)
   have HB:Hid _:=Br
   clear hc hc' HC HC' HR HR' q0 q1 q2 q3 q4 p0 p1 p2 p3 p4 m1 m2 D Br
   generalize ms.getD k moD=x at *
   generalize ns.getD k moD=y at *
   obtain⟨x0,x1,x2,x3,sv,es⟩:=x
   obtain⟨y0,y1,y2,y3,tv,fs⟩:=y
   have esv:sv = .slice a1 n1 cc1:=esv
   have etv:tv = .slice a2 n2 cc2:=etv
   subst esv etv
   go_wp2_with fail
   go_region_law (go_simp;go_at_call 106;refine E.mono ?_;clear E;rintro e w2 ⟨rfl,b2⟩;have HB2:Hid _:=HB.out.drew.trans (b2.mono HB.out.size);clear b2)
   all_goals go_wp2
   all_goals exact⟨⟨k+1,by omega,by go_num,HB2⟩,by simp[intOf];omega⟩
  ·have HB:Hid _:=Br
   clear Br HC HC' HR HR'
   go_wp2
   go_ret
   exact⟨rfl,HB⟩
def slotsLen:List MO→Nat
 | []=>0
 |m :: ms=>m.slots.length+slotsLen ms
theorem slotsLen_take_succ:∀ {ms:List MO} {k:Nat},k<ms.length→slotsLen (ms.take (k+1))=slotsLen (ms.take k)+(ms.getD k moD).slots.length
 | [],_,h=>by simp at h
 |e :: ms,0,_=>by simp[slotsLen]
 |e :: ms,k+1,h=>by
  have:=slotsLen_take_succ (ms:=ms) (k:=k) (by simpa using h)
  simp[slotsLen]at this ⊢
  omega
theorem slotsLen_take_le:∀(ms:List MO) (k:Nat),slotsLen (ms.take k)≤slotsLen ms
 | [],k=>by simp[slotsLen]
 |e :: ms,0=>by simp[slotsLen]
 |e :: ms,k+1=>by
  have:=slotsLen_take_le ms k
  simp[slotsLen]
  omega
theorem slots_le:∀ {ms:List MO} {m:MO},m ∈ ms→m.slots.length≤slotsLen ms
 | [],_,h=>by cases h
 |e :: ms,m,h=>by
  rcases List.mem_cons.1 h with rfl|h
  ·simp[slotsLen]
  ·have:=slots_le h
   simp[slotsLen];omega
theorem szObj_any {w:World} (m:MO) (h:RefsAt w m.sv m.slots) (left:Nat) (hl:left≤1048576) :
    Calls Tryz.prog 93 #[ov m,.int .i64 left] w fun e w'=>e = .returned (.int .i64 (if m.slots.length≤left then (left:Int)-m.slots.length else -1))∧Below w.heap.size w w':=by
 obtain⟨x0,x1,x2,x3,sv,es⟩:=m
 have B:Below w.heap.size w (w.alloc (.cells #[.int .i64 x0,.int .i64 x1,.int .i64 x2,.int .i64 x3,sv] 141)):=(Below.refl _ w).alloc (Nat.le_refl _) _
 have SZ:=szRefS_any (refsAt_below h B) left hl
 obtain⟨a1,n1,cc1,esv⟩:=refs_slice h
 have esv:sv = .slice a1 n1 cc1:=esv
 subst esv
 have HB:Hid _:=B
 clear B h
 by_cases hs:es.length≤left
 ·rw[if_pos hs]at SZ
  have hs':¬(left:Int)-(es.length:Int)<0:=by omega
  show Calls _ _ _ _ fun e w'=>e = .returned (.int .i64 (if es.length≤left then (left:Int)-es.length else -1))∧_
  rw[if_pos hs]
  go_enter Tryz.func93,Tryz.ntmps93
  go_wp2_with (go_at_call 61;refine SZ.mono ?_;rintro e w2 ⟨rfl,hw2⟩;rw[hw2];clear hw2 w2 SZ)
  go_ret
  exact⟨rfl,HB⟩
 ·rw[if_neg hs]at SZ
  show Calls _ _ _ _ fun e w'=>e = .returned (.int .i64 (if es.length≤left then (left:Int)-es.length else -1))∧_
  rw[if_neg hs]
  go_enter Tryz.func93,Tryz.ntmps93
  go_wp2_with (go_at_call 61;refine SZ.mono ?_;rintro e w2 ⟨rfl,hw2⟩;rw[hw2];clear hw2 w2 SZ)
  go_ret
  exact⟨rfl,HB⟩
def szO (ms:List MO) (left:Nat):Int:=if ms.length+slotsLen ms≤left then (left:Int)-(ms.length+slotsLen ms:Nat) else -1
set_option maxHeartbeats 1000000 in
theorem szObjS_any {w:World} {v:Value} {ms:List MO} (h:ObjsAt w v ms) (left:Nat) (hleft:left≤1048576) :
    Calls Tryz.prog 60 #[v,.int .i64 left] w fun e w'=>e = .returned (.int .i64 (szO ms left))∧Below w.heap.size w w':=by
 obtain⟨⟨a,cap,rfl,hlc,hcm,_,hc⟩,hrf⟩:=h
 have hcm':cap≤9223372036854775807:=hcm
 have HC:Hid _:=hc
 have HR:Hid _:=hrf
 clear hc hrf
 by_cases h1:ms.length≤left
 ·obtain⟨R,hR⟩:∃R,szO ms left=R:=⟨_,rfl⟩
  rw[hR]
  have HRR:Hid _:=hR
  clear hR
  have h1':¬(left:Int)-(ms.length:Int)<0:=by omega
  go_enter Tryz.func60,Tryz.ntmps60
  go_wp2_with fail
  go_loopw [1,5] (fun q i wr=>∃k l:Nat,k≤ms.length∧i = .int .i64 k∧q = .int .i64 l∧l+ms.length+slotsLen (ms.take k)=left∧Below w.heap.size w wr) (fun _ i _=>ms.length-(intOf i).toNat)
  case atStart=>exact⟨0,left-ms.length,Nat.zero_le _,rfl,by go_num,by simp[slotsLen];omega,Below.refl _ _⟩
  case round=>
   obtain⟨k,l,hk,rfl,rfl,hl,Br⟩:=hrel
   by_cases hlt:k<ms.length
   ·obtain⟨b,off,rfl,hbl,hc⟩:=HC.out (by omega)
    obtain⟨q0,q1,q2,q3,q4⟩:=hc k hlt
    have c0:=(Br.cell (p:=⟨b,off+k*5,none⟩) hbl).trans q0
    have c1:=(Br.cell (p:=⟨b,off+k*5+1,none⟩) hbl).trans q1
    have c2:=(Br.cell (p:=⟨b,off+k*5+2,none⟩) hbl).trans q2
    have c3:=(Br.cell (p:=⟨b,off+k*5+3,none⟩) hbl).trans q3
    have c4:=(Br.cell (p:=⟨b,off+k*5+4,none⟩) hbl).trans q4
    have ns:=slotsLen_take_succ hlt
    have nl:=slotsLen_take_le ms (k+1)
    have m1:=mem_getD hlt
    have SZ:=szObj_any (ms.getD k moD) (refsAt_below (HR.out _ m1) Br) l (by omega)
    obtain⟨a1,n1,cc1,esv⟩:=refs_slice (HR.out _ m1)
    have HB:Hid _:=Br
    clear hc HC HR Br q0 q1 q2 q3 q4 m1
    generalize ms.getD k moD=x at *
    obtain⟨x0,x1,x2,x3,sv,es⟩:=x
    have esv:sv = .slice a1 n1 cc1:=esv
    subst esv
    have ns:slotsLen (ms.take (k+1))=slotsLen (ms.take k)+es.length:=ns
    by_cases hs:es.length≤l
    ·rw[if_pos (show (MO.mk x0 x1 x2 x3 (.slice a1 n1 cc1) es).slots.length≤l from hs)]at SZ
     obtain⟨d,hd⟩:∃d:Nat,(l:Int)-(es.length:Int)=d:=⟨l-es.length,by omega⟩
     have SZ2:=SZ.mono (R':=fun e w'=>e = .returned (.int .i64 (d:Int))∧Below wr.heap.size wr w') (by rintro e w' ⟨rfl,hb⟩;exact⟨by rw[←hd],hb⟩)
     have hd0:¬(d:Int)<0:=by omega
     clear SZ
     go_wp2_with (go_at_call 93;refine SZ2.mono ?_;clear SZ2;rintro e w2 ⟨rfl,b2⟩;have HB2:Hid _:=HB.out.trans (b2.mono HB.out.size);clear b2)
     exact⟨⟨k+1,d,by omega,by go_num,rfl,by omega,HB2⟩,by simp[intOf];omega⟩
    ·rw[if_neg (show ¬(MO.mk x0 x1 x2 x3 (.slice a1 n1 cc1) es).slots.length≤l from hs)]at SZ
     have ER:Hid (R = -1):=by
      show R = -1
      rw[←HRR.out]
      unfold szO
      rw[if_neg (by omega)]
     clear HRR
     go_wp2_with (go_at_call 93;refine SZ.mono ?_;clear SZ;rintro e w2 ⟨rfl,b2⟩;have HB2:Hid _:=HB.out.trans (b2.mono HB.out.size);clear b2)
     go_ret
     exact⟨by rw[ER.out];rfl,HB2⟩
   ·have e:ms.take k=ms:=List.take_of_length_le (by omega)
    rw[e]at hl
    have ER:Hid (R=(l:Int)):=by
     show R=(l:Int)
     rw[←HRR.out]
     unfold szO
     rw[if_pos (by omega)]
     omega
    have HB:Hid _:=Br
    clear HRR HC Br HR
    go_wp2
    go_ret
    exact⟨by rw[ER.out];rfl,HB⟩
 ·have e:szO ms left = -1:=by unfold szO;rw[if_neg (by omega)]
  rw[e]
  have h1':(left:Int)-(ms.length:Int)<0:=by omega
  clear HC HR e
  go_enter Tryz.func60,Tryz.ntmps60
  go_wp2
  go_ret
  exact⟨rfl,Below.refl _ _⟩
theorem apart {v:Value}:∀ {ms:List MO},(blk v++blks ms).Nodup→(∀j,j<ms.length→∀k ∈ blk (ms.getD j moD).sv,k ∉ blk v)∧∀i j,i<ms.length→j<ms.length→i≠j→∀k ∈ blk (ms.getD i moD).sv,k ∉ blk (ms.getD j moD).sv
 | [],_=>⟨fun j h=>by simp at h,fun i j h=>by simp at h⟩
 |m :: ms,h=>by
  rw[List.nodup_append]at h
  obtain⟨h1,h2,h3⟩:=h
  have eb:blks (m :: ms)=blk m.sv++blks ms:=by simp[blks]
  rw[eb]at h2 h3
  rw[List.nodup_append]at h2
  have ih:=apart (v:=v) (ms:=ms) (by
   rw[List.nodup_append]
   exact⟨h1,h2.2.1,fun a ha b hb=>h3 a ha b (by simp[hb])⟩)
  have inb:∀j,j<ms.length→∀k ∈ blk (ms.getD j moD).sv,k ∈ blks ms:=fun j hj k hk=>by
   simp only[blks,List.mem_flatMap];exact⟨_,mem_getD hj,hk⟩
  refine⟨fun j hj k hk e => ?_,fun i j hi hj hne k hk e => ?_⟩
  ·cases j with
   |zero=>exact h3 k e k (by simp only[List.mem_append];exact .inl (by simpa using hk)) rfl
   |succ j=>exact ih.1 j (by simpa using hj) k (by simpa using hk) e
  ·cases i with
   |zero=>
    cases j with
    |zero=>exact hne rfl
    |succ j=>exact h2.2.2 k (by simpa using hk) k (inb j (by simpa using hj) k (by simpa using e)) rfl
   |succ i=>
    cases j with
    |zero=>exact h2.2.2 k (by simpa using e) k (inb i (by simpa using hi) k (by simpa using hk)) rfl
    |succ j=>exact ih.2 i j (by simpa using hi) (by simpa using hj) (by omega) k (by simpa using hk) (by simpa using e)
structure Gr where
 objs:List Ob
 roots:List Rf
 mourned:List Rf
 next:Int
 seed:Int
abbrev gv (o r m:Value) (n s:Int):Value:=.agg #[o,r,m,.int .i64 n,.int .i64 s]
abbrev gb (o r m:Value) (n s:Int):Obj:=.cells #[o,r,m,.int .i64 n,.int .i64 s] 27
def GraphAt (w:World) (o r m:Value) (ms:List MO) (G:Gr):Prop:=ms.map MO.abs=G.objs∧ObjsAt w o ms∧RefsAt w r G.roots∧RefsAt w m G.mourned
def gblk (o r m:Value) (ms:List MO):List Nat:=blk o++blks ms++blk r++blk m
def OwnG (w:World) (base:Nat) (o r m:Value) (ms:List MO) (G:Gr):Prop:=ms.map MO.abs=G.objs∧OwnO w base o ms∧OwnR w base r G.roots∧OwnR w base m G.mourned∧(gblk o r m ms).Nodup
theorem ownG_at {w:World} {base:Nat} {o r m:Value} {ms:List MO} {G:Gr} (h:OwnG w base o r m ms G):GraphAt w o r m ms G:=⟨h.1,ownO_at h.2.1,ownR_refs h.2.2.1,ownR_refs h.2.2.2.1⟩
theorem graphAt_below {w w':World} {o r m:Value} {ms:List MO} {G:Gr} (h:GraphAt w o r m ms G) (hb:Below w.heap.size w w'):GraphAt w' o r m ms G:=⟨h.1,objsAt_below h.2.1 hb,refsAt_below h.2.2.1 hb,refsAt_below h.2.2.2 hb⟩
theorem ownG_below {w w':World} {base:Nat} {o r m:Value} {ms:List MO} {G:Gr} (h:OwnG w base o r m ms G) (hb:Below w.heap.size w w'):OwnG w' base o r m ms G:=⟨h.1,ownO_below h.2.1 hb,ownR_below h.2.2.1 hb,ownR_below h.2.2.2.1 hb,h.2.2.2.2⟩
theorem ownG_base {w:World} {base base':Nat} {o r m:Value} {ms:List MO} {G:Gr} (h:OwnG w base o r m ms G) (hb:base'≤base):OwnG w base' o r m ms G:=⟨h.1,ownO_base h.2.1 hb,ownR_base h.2.2.1 hb,ownR_base h.2.2.2.1 hb,h.2.2.2.2⟩
theorem ownG_lt {w:World} {base:Nat} {o r m:Value} {ms:List MO} {G:Gr} (h:OwnG w base o r m ms G):∀k ∈ gblk o r m ms,base≤k∧k<w.heap.size:=by
 intro k hk
 simp only[gblk,List.mem_append]at hk
 rcases hk with ((hk|hk)|hk)|hk
 ·exact blks_lt h.2.1 k (by simp only[List.mem_append];exact .inl hk)
 ·exact blks_lt h.2.1 k (by simp only[List.mem_append];exact .inr hk)
 ·exact blk_lt h.2.2.1 k hk
 ·exact blk_lt h.2.2.2.1 k hk
theorem ownG_ch {S:List Nat} {w w':World} {base:Nat} {o r m:Value} {ms:List MO} {G:Gr} (h:OwnG w base o r m ms G) (hc:Ch S w w') (hd:∀k ∈ gblk o r m ms,k ∉ S):OwnG w' base o r m ms G:=by
 refine⟨h.1,ownO_ch h.2.1 hc (fun k hk=>hd k ?_),row_ch h.2.2.1 hc (fun k hk=>hd k ?_),row_ch h.2.2.2.1 hc (fun k hk=>hd k ?_),h.2.2.2.2⟩
 ·simp only[gblk,List.mem_append]at hk ⊢; exact .inl (.inl hk)
 ·simp only[gblk,List.mem_append]at hk ⊢; exact .inl (.inr hk)
 ·simp only[gblk,List.mem_append]at hk ⊢; exact .inr hk
def gSize (ms:List MO) (G:Gr):Nat:=ms.length+slotsLen ms+G.roots.length+G.mourned.length
theorem gSize_slots {ms:List MO} {G:Gr} (h:gSize ms G≤1048576):∀m ∈ ms,m.slots.length≤1048576:=fun m hm=>by
 have:=slots_le hm
 unfold gSize at h
 omega
set_option maxHeartbeats 1000000 in
theorem szGraph_any {w:World} {o r m:Value} {ms:List MO} {G:Gr} (h:GraphAt w o r m ms G) (left:Nat) (hleft:left≤1048576) :
    Calls Tryz.prog 23 #[gv o r m G.next G.seed,.int .i64 left] w fun e w'=>e = .returned (.int .i64 (if gSize ms G≤left then (left:Int)-gSize ms G else -1))∧Below w.heap.size w w':=by
 obtain⟨_,hO,hR,hM⟩:=h
 have B:Below w.heap.size w (w.alloc (.cells #[o,r,m,.int .i64 G.next,.int .i64 G.seed] 54)):=(Below.refl _ w).alloc (Nat.le_refl _) _
 have SO:=szObjS_any (objsAt_below hO B) left hleft
 have hR1:=refsAt_below hR B
 have hM1:=refsAt_below hM B
 obtain⟨a1,n1,c1,e1⟩:∃a n c,o = .slice a n c:=by obtain⟨⟨a,c,e,_⟩,_⟩:=hO;exact⟨a,_,c,e⟩
 obtain⟨a2,n2,c2,e2⟩:=refs_slice hR
 obtain⟨a3,n3,c3,e3⟩:=refs_slice hM
 subst e1 e2 e3
 obtain⟨RV,hRV⟩:∃RV:Int,(if gSize ms G≤left then (left:Int)-gSize ms G else -1)=RV:=⟨_,rfl⟩
 rw[hRV]
 have HRV:Hid _:=hRV
 have T:=five_new w 54 (.slice a1 n1 c1) (.slice a2 n2 c2) (.slice a3 n3 c3) (.int .i64 G.next) (.int .i64 G.seed)
 have HT:Hid _:=T
 have HB:Hid _:=B
 have HR1:Hid _:=hR1
 have HM1:Hid _:=hM1
 clear hRV B hO hR hM hR1 hM1 T
 generalize G.next=gn at *
 generalize G.seed=gs at *
 go_enter Tryz.func23,Tryz.ntmps23
 go_wp2_with fail
 generalize (w.alloc (Obj.cells #[.slice a1 n1 c1,.slice a2 n2 c2,.slice a3 n3 c3,.int .i64 gn,.int .i64 gs] 54))=X at *
 refine SO.mono ?_
 rintro e w2 ⟨rfl,b2⟩
 have U2:=five_below HT.out b2
 have hR2:=refsAt_below HR1.out b2
 have hM2:=refsAt_below HM1.out b2
 have B2:=HB.out.trans (b2.mono HB.out.size)
 clear SO HT HR1 HM1 HB b2
 by_cases d1:ms.length+slotsLen ms≤left
 ·obtain⟨l1,hl1⟩:∃l1:Nat,szO ms left=(l1:Int)∧l1+(ms.length+slotsLen ms)=left:=⟨left-(ms.length+slotsLen ms),by unfold szO;rw[if_pos d1];omega,by omega⟩
  have SR:=szRefS_any hR2 l1 (by omega)
  rw[hl1.1]
  have n1:¬(l1:Int)<0:=by omega
  obtain⟨k0,k1,k2,k3,k4,_⟩:=five_cells U2
  have HB2:Hid _:=B2
  have HM2:Hid _:=hM2
  clear U2 B2 hR2 hM2
  by_cases d2:G.roots.length≤l1
  ·rw[if_pos d2]at SR
   obtain⟨l2,hl2⟩:∃l2:Nat,(l1:Int)-(G.roots.length:Int)=(l2:Int):=⟨l1-G.roots.length,by omega⟩
   rw[hl2]at SR
   have n2:¬(l2:Int)<0:=by omega
   have SM:=szRefS_any HM2.out l2 (by omega)
   clear HM2
   by_cases d3:G.mourned.length≤l2
   ·rw[if_pos d3]at SM
    obtain⟨l3,hl3⟩:∃l3:Nat,(l2:Int)-(G.mourned.length:Int)=(l3:Int):=⟨l2-G.mourned.length,by omega⟩
    rw[hl3]at SM
    have n3:¬(l3:Int)<0:=by omega
    have ER:Hid (RV=(l3:Int)):=by
     show RV=_
     rw[←HRV.out,if_pos (by unfold gSize;omega)]
     unfold gSize
     omega
    clear HRV
    go_wp2_with (first
     |(go_at_call 61;refine SR.mono ?_;rintro e w3 ⟨rfl,hw3⟩;rw[hw3];clear hw3 w3 SR)
     |(go_at_call 61;refine SM.mono ?_;rintro e w3 ⟨rfl,hw3⟩;rw[hw3];clear hw3 w3 SM))
    go_ret
    exact⟨by rw[ER.out];rfl,HB2⟩
   ·rw[if_neg d3]at SM
    have ER:Hid (RV = -1):=by
     show RV=_
     rw[←HRV.out,if_neg (by unfold gSize;omega)]
    clear HRV
    go_wp2_with (first
     |(go_at_call 61;refine SR.mono ?_;rintro e w3 ⟨rfl,hw3⟩;rw[hw3];clear hw3 w3 SR)
     |(go_at_call 61;refine SM.mono ?_;rintro e w3 ⟨rfl,hw3⟩;rw[hw3];clear hw3 w3 SM))
    go_ret
    exact⟨by rw[ER.out];rfl,HB2⟩
  ·rw[if_neg d2]at SR
   have ER:Hid (RV = -1):=by
    show RV=_
    rw[←HRV.out,if_neg (by unfold gSize;omega)]
   clear HRV HM2
   go_wp2_with (go_at_call 61;refine SR.mono ?_;rintro e w3 ⟨rfl,hw3⟩;rw[hw3];clear hw3 w3 SR)
   go_ret
   exact⟨by rw[ER.out];rfl,HB2⟩
 ·have e1:szO ms left = -1:=by unfold szO;rw[if_neg d1]
  rw[e1]
  have ER:Hid (RV = -1):=by
   show RV=_
   rw[←HRV.out,if_neg (by unfold gSize;omega)]
  have HB2:Hid _:=B2
  clear HRV U2 hR2 hM2 B2
  go_wp2
  go_ret
  exact⟨by rw[ER.out];rfl,HB2⟩
set_option maxHeartbeats 1000000 in
theorem eqGraph_same {w:World} {o r m o' r' m':Value} {ms ns:List MO} {G:Gr} (h:GraphAt w o r m ms G) (h':GraphAt w o' r' m' ns G) (hs:gSize ms G≤1048576) :
    Calls Tryz.prog 29 #[gv o r m G.next G.seed,gv o' r' m' G.next G.seed] w fun e w'=>e = .returned (.bool true)∧Below w.heap.size w w':=by
 have hsl:=gSize_slots hs
 have hsz:G.roots.length≤1048576∧G.mourned.length≤1048576:=by unfold gSize at hs;omega
 obtain⟨ea,hO,hR,hM⟩:=h
 obtain⟨ea',hO',hR',hM'⟩:=h'
 have B:Below w.heap.size w ((w.alloc (gb o r m G.next G.seed)).alloc (gb o' r' m' G.next G.seed)):=((Below.refl _ w).alloc (Nat.le_refl _) _).alloc (by simp) _
 have EO:=eqObjS_same (ea.trans ea'.symm) (objsAt_below hO B) (objsAt_below hO' B) hsl
 have T1:Five ((w.alloc (gb o r m G.next G.seed)).alloc (gb o' r' m' G.next G.seed)) w.heap.size 27 o r m (.int .i64 G.next) (.int .i64 G.seed):=five_below (five_new w _ _ _ _ _ _) ((Below.refl _ _).alloc (Nat.le_refl _) _)
 have T2:Five ((w.alloc (gb o r m G.next G.seed)).alloc (gb o' r' m' G.next G.seed)) (w.heap.size+1) 27 o' r' m' (.int .i64 G.next) (.int .i64 G.seed):=by
  have:=five_new (w.alloc (gb o r m G.next G.seed)) 27 o' r' m' (.int .i64 G.next) (.int .i64 G.seed)
  simpa using this
 have hR1:=refsAt_below hR B
 have hM1:=refsAt_below hM B
 have hR1':=refsAt_below hR' B
 have hM1':=refsAt_below hM' B
 obtain⟨a1,n1,c1,e1⟩:∃a n c,o = .slice a n c:=by obtain⟨⟨a,c,e,_⟩,_⟩:=hO;exact⟨a,_,c,e⟩
 obtain⟨a2,n2,c2,e2⟩:=refs_slice hR
 obtain⟨a3,n3,c3,e3⟩:=refs_slice hM
 obtain⟨b1,p1,d1,f1⟩:∃a n c,o' = .slice a n c:=by obtain⟨⟨a,c,e,_⟩,_⟩:=hO';exact⟨a,_,c,e⟩
 obtain⟨b2,p2,d2,f2⟩:=refs_slice hR'
 obtain⟨b3,p3,d3,f3⟩:=refs_slice hM'
 subst e1 e2 e3 f1 f2 f3
 have i1:(G.next != G.next)=false:=by simp
 have i2:(G.seed != G.seed)=false:=by simp
 have HT1:Hid _:=T1
 have HT2:Hid _:=T2
 have HB:Hid _:=B
 have HR1:Hid _:=hR1
 have HM1:Hid _:=hM1
 have HR1':Hid _:=hR1'
 have HM1':Hid _:=hM1'
 clear B hO hR hM hR1 hM1 T1 T2 hO' hR' hM' hR1' hM1' ea ea'
 generalize hgn:G.next=gn at *
 generalize hgs:G.seed=gs at *
 go_enter Tryz.func29,Tryz.ntmps29
 go_wp2_with fail
 generalize ((w.alloc (gb (.slice a1 n1 c1) (.slice a2 n2 c2) (.slice a3 n3 c3) gn gs)).alloc (gb (.slice b1 p1 d1) (.slice b2 p2 d2) (.slice b3 p3 d3) gn gs))=X at *
 refine EO.mono ?_
 rintro e w2 ⟨rfl,q2⟩
 have EQ2:=eqRefS_same (refsAt_below HR1.out q2) (refsAt_below HR1'.out q2) hsz.1
 have U1:=five_below HT1.out q2
 have U2:=five_below HT2.out q2
 have M2:=refsAt_below HM1.out q2
 have M2':=refsAt_below HM1'.out q2
 have B2:=HB.out.trans (q2.mono HB.out.size)
 clear EO q2 HT1 HT2 HB HR1 HM1 HR1' HM1'
 obtain⟨_,k1,k2,k3,k4,_⟩:=five_cells U1
 obtain⟨_,j1,j2,j3,j4,_⟩:=five_cells U2
 have HU1:Hid _:=U1
 have HU2:Hid _:=U2
 have HM2:Hid _:=M2
 have HM2':Hid _:=M2'
 have HB2:Hid _:=B2
 clear U1 U2 M2 M2' B2
 go_wp2_with fail
 refine EQ2.mono ?_
 rintro e w3 ⟨rfl,q3⟩
 have EQ3:=eqRefS_same (refsAt_below HM2.out q3) (refsAt_below HM2'.out q3) hsz.2
 have V1:=five_below HU1.out q3
 have V2:=five_below HU2.out q3
 have B3:=HB2.out.trans (q3.mono HB2.out.size)
 clear EQ2 q3 HU1 HU2 HB2 HM2 HM2' k1 k2 k3 k4 j1 j2 j3 j4
 obtain⟨_,_,k2,k3,k4,_⟩:=five_cells V1
 obtain⟨_,_,j2,j3,j4,_⟩:=five_cells V2
 have HV1:Hid _:=V1
 have HV2:Hid _:=V2
 have HB3:Hid _:=B3
 clear V1 V2 B3
 go_wp2_with fail
 refine EQ3.mono ?_
 rintro e w4 ⟨rfl,q4⟩
 have B4:=HB3.out.trans (q4.mono HB3.out.size)
 have Z1:=five_below HV1.out q4
 have Z2:=five_below HV2.out q4
 clear EQ3 q4 HV1 HV2 HB3 k2 k3 k4 j2 j3 j4
 obtain⟨_,_,_,k3,k4,_⟩:=five_cells Z1
 obtain⟨_,_,_,j3,j4,_⟩:=five_cells Z2
 have HB4:Hid _:=B4
 clear Z1 Z2 B4
 go_wp2
 go_ret
 exact⟨rfl,HB4⟩
theorem res_gr {fn:Func} {tmps:Array Value} {X:World} {j b:Nat} {a1 a2 a3:Option Addr} {n1 c1 n2 c2 n3 c3:Nat} {x y:Int} (hf:fn.results=#[.cell j 27]) (h2:tmps[j]? = some (.pointer (some ⟨b,0,none⟩))) (hX:Five X b 27 (.slice a1 n1 c1) (.slice a2 n2 c2) (.slice a3 n3 c3) (.int .i64 x) (.int .i64 y)) :
    (results fn tmps).run Tryz.prog X = .ok (gv (.slice a1 n1 c1) (.slice a2 n2 c2) (.slice a3 n3 c3) x y) X:=by
 obtain⟨k0,k1,k2,k3,k4,_⟩:=five_cells hX
 clear hX
 simp[results,hf,h2,go_sem,k0,k1,k2,k3,k4]
theorem one_ch (Y:World) (b k:Nat) (u:Value):Ch [b] Y (Y.setCell ⟨b,k,none⟩ u):=⟨rfl,rfl,rfl,by simp,fun j _ hn=>Below.heap_setCell Y _ u j (fun e=>hn (by simp[e]))⟩
theorem five_ch {S:List Nat} {w w':World} {b:Nat} {t:TypeId} {c0 c1 c2 c3 c4:Value} (h:Five w b t c0 c1 c2 c3 c4) (hc:Ch S w w') (hb:b ∉ S):Five w' b t c0 c1 c2 c3 c4:=(hc.block b (lt_of_block h) hb).trans h
set_option maxHeartbeats 4000000 in
theorem toGraph_any {w:World} {o r m:Value} {ms:List MO} {G:Gr} (h:GraphAt w o r m ms G) (hs:gSize ms G≤1048576) :
    Calls Tryz.prog 26 #[gv o r m G.next G.seed] w fun e w'=>∃(o' r' m':Value) (rs:List MO),e = .returned (gv o' r' m' G.next G.seed)∧OwnG w' w.heap.size o' r' m' rs G∧Below w.heap.size w w':=by
 have hsl:=gSize_slots hs
 have hsz:ms.length≤1048576∧G.roots.length≤1048576∧G.mourned.length≤1048576:=by unfold gSize at hs;omega
 obtain⟨ea,hO,hR,hM⟩:=h
 obtain⟨a1,n1,c1,e1⟩:∃a n c,o = .slice a n c:=by obtain⟨⟨a,c,e,_⟩,_⟩:=hO;exact⟨a,_,c,e⟩
 obtain⟨a2,n2,c2,e2⟩:=refs_slice hR
 obtain⟨a3,n3,c3,e3⟩:=refs_slice hM
 subst e1 e2 e3
 obtain⟨X,hX⟩:∃X,X=((w.alloc (.cells #[.slice a1 n1 c1,.slice a2 n2 c2,.slice a3 n3 c3,.int .i64 G.next,.int .i64 G.seed] 54)).alloc (gb (.slice none 0 0) (.slice none 0 0) (.slice none 0 0) 0 0)).alloc (gb (.slice none 0 0) (.slice none 0 0) (.slice none 0 0) 0 0):=⟨_,rfl⟩
 have HX:Hid _:=hX
 have BX:Below w.heap.size w X:=by
  rw[hX]
  exact (((Below.refl _ w).alloc (Nat.le_refl _) _).alloc (by simp) _).alloc (by simp;omega) _
 have sX:X.heap.size=w.heap.size+3:=by rw[hX];simp
 have T1:Five X w.heap.size 54 (.slice a1 n1 c1) (.slice a2 n2 c2) (.slice a3 n3 c3) (.int .i64 G.next) (.int .i64 G.seed):=by
  rw[hX]
  exact five_below (five_below (five_new w _ _ _ _ _ _) ((Below.refl _ _).alloc (Nat.le_refl _) _)) ((Below.refl _ _).alloc (Nat.le_refl _) _)
 have T2:Five X (w.heap.size+1) 27 (.slice none 0 0) (.slice none 0 0) (.slice none 0 0) (.int .i64 0) (.int .i64 0):=by
  rw[hX]
  have:=five_new (w.alloc (.cells #[.slice a1 n1 c1,.slice a2 n2 c2,.slice a3 n3 c3,.int .i64 G.next,.int .i64 G.seed] 54)) 27 (.slice none 0 0) (.slice none 0 0) (.slice none 0 0) (.int .i64 0) (.int .i64 0)
  have:=five_below this ((Below.refl _ _).alloc (Nat.le_refl _) (gb (.slice none 0 0) (.slice none 0 0) (.slice none 0 0) 0 0))
  simpa using this
 have T3:Five X (w.heap.size+1+1) 27 (.slice none 0 0) (.slice none 0 0) (.slice none 0 0) (.int .i64 0) (.int .i64 0):=by
  rw[hX]
  have:=five_new ((w.alloc (.cells #[.slice a1 n1 c1,.slice a2 n2 c2,.slice a3 n3 c3,.int .i64 G.next,.int .i64 G.seed] 54)).alloc (gb (.slice none 0 0) (.slice none 0 0) (.slice none 0 0) 0 0)) 27 (.slice none 0 0) (.slice none 0 0) (.slice none 0 0) (.int .i64 0) (.int .i64 0)
  simpa using this
 have TO:=toObjS_any (objsAt_below hO BX) hsz.1 hsl
 have HR:Hid _:=hR
 have HM:Hid _:=hM
 have l2:w.heap.size≤w.heap.size+1:=by omega
 have l3:w.heap.size≤w.heap.size+1+1:=by omega
 have n13:w.heap.size ∉ [w.heap.size+1+1]:=by simp;omega
 have n23:w.heap.size+1 ∉ [w.heap.size+1+1]:=by simp
 have sX3:w.heap.size+1+1<X.heap.size:=by omega
 have sX2:w.heap.size+1<X.heap.size:=by omega
 have sX1:w.heap.size≤X.heap.size:=by omega
 have HEA:Hid _:=ea
 clear hX hO hR hM sX ea
 generalize hgn:G.next=gn at *
 generalize hgs:G.seed=gs at *
 go_enter Tryz.func26,Tryz.ntmps26
 go_wp2_with fail
 rw[←HX.out]
 generalize hb3:w.heap.size+1+1=B3 at *
 generalize hb2:w.heap.size+1=B2 at *
 refine TO.mono ?_
 rintro e w2 ⟨u,rs,rfl,ab,O2,b2⟩
 clear TO HX
 have s2:=b2.size
 have U1:=five_below T1 b2
 have U2:=five_below T2 b2
 have U3:=five_below T3 b2
 have BW2:=BX.trans (b2.mono sX1)
 obtain⟨ua,un,uc,eu⟩:∃a n c,u = .slice a n c:=by obtain⟨⟨a,c,e,_⟩,_⟩:=ownO_at O2;exact⟨a,_,c,e⟩
 subst eu
 have C3:=one_ch w2 B3 0 (.slice ua un uc)
 have V1:=five_ch U1 C3 n13
 have V2:=five_ch U2 C3 n23
 have V3:=five_set0 U3 (.slice ua un uc)
 have O3:=ownO_ch O2 C3 (fun k hk e=>by rw[List.mem_singleton]at e;have:=(blks_lt O2 k hk).1;omega)
 have BW3:=BW2.setCell (p:=⟨B3,0,none⟩) l3 (.slice ua un uc)
 have TR:=toRefS_any (refsAt_below HR.out BW3) hsz.2.1
 have sY:(w2.setCell ⟨B3,0,none⟩ (.slice ua un uc)).heap.size=w2.heap.size:=by simp
 obtain⟨k0,k1,k2,k3,k4,_⟩:=five_cells U1
 obtain⟨j0,j1,j2,j3,j4,jf⟩:=five_cells U3
 have f0:=jf 0
 have HO3:Hid _:=O3
 have HV1:Hid _:=V1
 have HV2:Hid _:=V2
 have HV3:Hid _:=V3
 have HB3:Hid _:=BW3
 have LO:Hid (∀k ∈ blk (.slice ua un uc)++blks rs,X.heap.size≤k∧k<w2.heap.size):=blks_lt O2
 clear T1 T2 T3 BX b2 U1 U2 U3 BW2 C3 V1 V2 V3 O3 O2 BW3 HR jf
 go_wp2_with fail
 generalize hY:(w2.setCell ⟨B3,0,none⟩ (.slice ua un uc))=Y at *
 have HSY:Hid _:=sY
 have sY1:w2.heap.size≤Y.heap.size:=by omega
 clear sY hY k0 k1 k2 k3 k4 j0 j1 j2 j3 j4 f0
 refine TR.mono ?_
 rintro e w3 ⟨rfl,F3,b3⟩
 clear TR
 have s3:=lt_of_block F3
 have U1:=five_below HV1.out b3
 have U2:=five_below HV2.out b3
 have U3:=five_below HV3.out b3
 have O3:=ownO_below HO3.out b3
 have BW3:=HB3.out.trans (b3.mono HB3.out.size)
 have q1B:Y.heap.size ∉ [B3]:=by simp;omega
 have C4:=one_ch w3 B3 1 (.slice (some ⟨Y.heap.size,0,none⟩) G.roots.length G.roots.length)
 have V1:=five_ch U1 C4 n13
 have V2:=five_ch U2 C4 n23
 have V3:=five_set1 U3 (.slice (some ⟨Y.heap.size,0,none⟩) G.roots.length G.roots.length)
 have O4:=ownO_ch O3 C4 (fun k hk e=>by rw[List.mem_singleton]at e;have:=(LO.out k hk).1;omega)
 have F4:FullR _ Y.heap.size G.roots:=(C4.block Y.heap.size s3 q1B).trans F3
 have BW4:=BW3.setCell (p:=⟨B3,1,none⟩) l3 (.slice (some ⟨Y.heap.size,0,none⟩) G.roots.length G.roots.length)
 have TM:=toRefS_any (refsAt_below HM.out BW4) hsz.2.2
 have sZ:(w3.setCell ⟨B3,1,none⟩ (.slice (some ⟨Y.heap.size,0,none⟩) G.roots.length G.roots.length)).heap.size=w3.heap.size:=by simp
 obtain⟨k0,k1,k2,k3,k4,_⟩:=five_cells U1
 obtain⟨j0,j1,j2,j3,j4,jf⟩:=five_cells U3
 have f1:=jf 1
 have HO4:Hid _:=O4
 have HF4:Hid _:=F4
 have HV1':Hid _:=V1
 have HV2':Hid _:=V2
 have HV3':Hid _:=V3
 have HB4:Hid _:=BW4
 clear HV1 HV2 HV3 HO3 HB3 b3 U1 U2 U3 O3 BW3 C4 V1 V2 V3 O4 F4 F3 BW4 HM jf
 generalize hQ1:Y.heap.size=q1 at *
 go_wp2_with fail
 generalize hZ:(w3.setCell ⟨B3,1,none⟩ (.slice (some ⟨q1,0,none⟩) G.roots.length G.roots.length))=Z at *
 have sZ1:w3.heap.size≤Z.heap.size:=by omega
 clear sZ hZ k0 k1 k2 k3 k4 j0 j1 j2 j3 j4 f1
 refine TM.mono ?_
 rintro e w4 ⟨rfl,F5,b5⟩
 clear TM
 have s4:=lt_of_block F5
 have U1:=five_below HV1'.out b5
 have U2:=five_below HV2'.out b5
 have U3:=five_below HV3'.out b5
 have O5:=ownO_below HO4.out b5
 have F4:=fullR_below HF4.out b5
 have BW5:=HB4.out.trans (b5.mono HB4.out.size)
 generalize hQ2:Z.heap.size=q2 at *
 have q12:q1<q2:=by omega
 have q1s:=lt_of_block F4
 -- the stores
 obtain⟨Y5,hY5⟩:∃Y5,Y5=((w4.setCell ⟨B3,2,none⟩ (.slice (some ⟨q2,0,none⟩) G.mourned.length G.mourned.length)).setCell ⟨B3,3,none⟩ (.int .i64 gn)).setCell ⟨B3,4,none⟩ (.int .i64 gs):=⟨_,rfl⟩
 have C5:Ch [B3] w4 Y5:=by rw[hY5];exact ((one_ch _ _ _ _).trans (one_ch _ _ _ _)).trans (one_ch _ _ _ _)
 have V2:=five_ch U2 C5 n23
 have W:=five_sets V2 (.slice ua un uc) (.slice (some ⟨q1,0,none⟩) G.roots.length G.roots.length) (.slice (some ⟨q2,0,none⟩) G.mourned.length G.mourned.length) (.int .i64 gn) (.int .i64 gs)
 have C6:=C5.mono (T:=[B2,B3]) (fun k hk=>by rw[List.mem_singleton]at hk;rw[hk];simp)
 have C7:=C6.trans ((five_other (X:=Y5) (b:=B2) (.slice ua un uc) (.slice (some ⟨q1,0,none⟩) G.roots.length G.roots.length) (.slice (some ⟨q2,0,none⟩) G.mourned.length G.mourned.length) (.int .i64 gn) (.int .i64 gs)).mono (fun k hk=>by rw[List.mem_singleton]at hk;rw[hk];simp))
 have far:∀k,X.heap.size≤k→k ∉ [B2,B3]:=fun k hk e=>by simp only[List.mem_cons,List.not_mem_nil,or_false]at e;omega
 have O7:=ownO_ch O5 C7 (fun k hk=>far k (LO.out k hk).1)
 have R7:=(C7.block q1 q1s (far q1 (by omega))).trans F4
 have M7:=(C7.block q2 s4 (far q2 (by omega))).trans F5
 have B7:Below w.heap.size w _:=five_belows (show Below w.heap.size w Y5 by rw[hY5];exact ((BW5.setCell (p:=⟨B3,2,none⟩) l3 _).setCell (p:=⟨B3,3,none⟩) l3 _).setCell (p:=⟨B3,4,none⟩) l3 _) l2 (.slice ua un uc) (.slice (some ⟨q1,0,none⟩) G.roots.length G.roots.length) (.slice (some ⟨q2,0,none⟩) G.mourned.length G.mourned.length) (.int .i64 gn) (.int .i64 gs)
 have ND:(gblk (.slice ua un uc) (.slice (some ⟨q1,0,none⟩) G.roots.length G.roots.length) (.slice (some ⟨q2,0,none⟩) G.mourned.length G.mourned.length) rs).Nodup:=by
  have e1:blk (Value.slice (some ⟨q1,0,none⟩) G.roots.length G.roots.length)=[q1]:=rfl
  have e2:blk (Value.slice (some ⟨q2,0,none⟩) G.mourned.length G.mourned.length)=[q2]:=rfl
  unfold gblk
  rw[e1,e2,List.nodup_append,List.nodup_append]
  refine⟨⟨O5.2.2,by simp,fun x hx y hy => ?_⟩,by simp,fun x hx y hy => ?_⟩
  ·rw[List.mem_singleton]at hy
   have:=(LO.out x hx).2
   omega
  ·rw[List.mem_singleton]at hy
   rw[List.mem_append,List.mem_singleton]at hx
   rcases hx with hx|hx
   ·have:=(LO.out x hx).2
    omega
   ·omega
 obtain⟨k0,k1,k2,k3,k4,_⟩:=five_cells U1
 obtain⟨j0,j1,j2,j3,j4,jf⟩:=five_cells U3
 obtain⟨i0,i1,i2,i3,i4,iF⟩:=five_cells U2
 have f2:=jf 2
 have f3:=jf 3
 have f4:=jf 4
 have g0:=iF 0
 have g1:=iF 1
 have g2:=iF 2
 have g3:=iF 3
 have g4:=iF 4
 have OG:OwnG _ w.heap.size _ _ _ rs G:=⟨ab.trans HEA.out,ownO_base O7 sX1,fullR_own (base:=w.heap.size) R7 (by omega) (by unfold maxLen;omega),fullR_own (base:=w.heap.size) M7 (by omega) (by unfold maxLen;omega),ND⟩
 have HOG:Hid _:=OG
 have HW:Hid _:=W
 have HB7:Hid _:=B7
 have HY5:Hid _:=hY5
 clear O7 R7 M7 B7 ND OG W C5 C6 C7 V2 U1 U2 U3 O5 F4 F5 BW5 b5 HV1' HV2' HV3' HO4 HF4 HB4 far jf iF hY5
 go_wp2
 rw[HY5.out]at HW HOG HB7
 exact bodyPost_ret (res_gr rfl rfl HW.out) rfl ⟨_,_,_,rs,rfl,HOG.out,HB7.out⟩
theorem gblk_apart {o r m:Value} {ms:List MO} (h:(gblk o r m ms).Nodup):(∀k ∈ blk o++blks ms,k ∉ blk r)∧(∀k ∈ blk o++blks ms,k ∉ blk m)∧∀k ∈ blk r,k ∉ blk m:=by
 unfold gblk at h
 rw[List.nodup_append,List.nodup_append]at h
 obtain⟨⟨_,_,h1⟩,_,h2⟩:=h
 exact⟨fun k hk e=>h1 k hk k e rfl,fun k hk e=>h2 k (List.mem_append.2 (.inl hk)) k e rfl,fun k hk e=>h2 k (List.mem_append.2 (.inr hk)) k e rfl⟩
theorem graphAt_slices {w:World} {o r m:Value} {ms:List MO} {G:Gr} (h:GraphAt w o r m ms G):∃a1 n1 c1 a2 n2 c2 a3 n3 c3,o = .slice a1 n1 c1∧r = .slice a2 n2 c2∧m = .slice a3 n3 c3:=by
 obtain⟨_,⟨⟨a1,c1,e1,_⟩,_⟩,hR,hM⟩:=h
 obtain⟨a2,n2,c2,e2⟩:=refs_slice hR
 obtain⟨a3,n3,c3,e3⟩:=refs_slice hM
 exact⟨a1,_,c1,a2,n2,c2,a3,n3,c3,e1,e2,e3⟩
theorem slotsLen_abs:∀ {ms ns:List MO},ms.map MO.abs=ns.map MO.abs→slotsLen ms=slotsLen ns
 | [],[],_=>rfl
 | [],_ :: _,h=>by simp at h
 |_ :: _,[],h=>by simp at h
 |m :: ms,n :: ns,h=>by
  simp only[List.map_cons,List.cons.injEq]at h
  have e:m.slots=n.slots:=congrArg Ob.slots h.1
  simp only[slotsLen,e,slotsLen_abs h.2]
theorem gSize_of {ms ns:List MO} {G:Gr} (h:ms.map MO.abs=G.objs) (h':ns.map MO.abs=G.objs) (hs:gSize ns G≤1048576):gSize ms G≤1048576:=by
 have e:=h.trans h'.symm
 have e1:=slotsLen_abs e
 have e2:=abs_len e
 unfold gSize at hs ⊢
 omega
end Go.Proofs.YtkiognecebgaiaaGreatDoor.gr
namespace Go.Proofs.YtkiognecebgaiaaGreatDoor.gr
open Go.ChangeShapes Go.WideShapes Go.ChangeAt Go.RowKit rows
section
variable {H:Type} {enc:TypeId×Value→H} {P:Program} {w:World} {base:Nat} {spare:Nat→Bool} {held:Bool}
theorem list2 {α:Type} {cs:List α} (h:cs.length=2):∃c0 c1,cs=[c0,c1]:=by
 match cs,h with
 | [c0,c1],_=>exact⟨c0,c1,rfl⟩
theorem list5 {α:Type} {cs:List α} (h:cs.length=5):∃c0 c1 c2 c3 c4,cs=[c0,c1,c2,c3,c4]:=by
 match cs,h with
 | [c0,c1,c2,c3,c4],_=>exact⟨c0,c1,c2,c3,c4,rfl⟩
theorem array5 {α:Type} {cs:Array α} (h:cs.size=5):∃c0 c1 c2 c3 c4,cs=#[c0,c1,c2,c3,c4]:=by
 obtain⟨l⟩:=cs
 match l,h with
 | [c0,c1,c2,c3,c4],_=>exact⟨c0,c1,c2,c3,c4,rfl⟩
theorem each_to {α:Type} (d:α) {n:Nat} {Q:Nat→α→Prop}:(∀i,i<n→∃e,Q i e)→∃es:List α,es.length=n∧∀i,i<n→Q i (es.getD i d):=by
 induction n with
 |zero=>exact fun _=>⟨[],rfl,fun i hi=>by omega⟩
 |succ n ih=>
  intro h
  obtain⟨es,hl,hq⟩:=ih (fun i hi=>h i (by omega))
  obtain⟨e,he⟩:=h n (by omega)
  refine⟨es++[e],by simp[hl],fun i hi => ?_⟩
  by_cases hin:i<n
  ·have:=hq i hin
   rwa [List.getD_eq_getElem?_getD,List.getElem?_append_left (by omega),←List.getD_eq_getElem?_getD]
  ·obtain rfl:i=n:=by omega
   rw[List.getD_eq_getElem?_getD,List.getElem?_append_right (by omega),hl]
   simpa using he
theorem open_refs {t e ti:TypeId} {f0 f1:Field} {fuel:Nat} {v:Value} {x:DataW H×List MemPlace}
    (ht:P.underlying t=some (.slice e)) (hs:P.underlying e=some (.struct #[f0,f1])) (hc:P.cellsOf e=2) (ki:P.cellsOf ti=1)
    (o0:f0.offset=0) (o1:f1.offset=1) (hi:P.underlying ti=some (.int .i64)) (g0:f0.type=ti) (g1:f1.type=ti)
    (h:DataW.trod enc P w base spare held fuel t [v]=some x):∃es:List Rf,RefsAt w v es:=by
 rcases DataW.trod_slice ht h with ⟨h0,_⟩|⟨a,len,cap,elems,rest,n,_,hcs,_,hb,hl,hm,hlen,hel,_,_⟩
 ·obtain rfl:v = .slice none 0 0:=by simpa using h0
  exact⟨[],⟨none,0,rfl,Nat.le_refl _,by decide,fun _=>rfl,fun hp=>absurd hp (by simp)⟩⟩
 ·obtain rfl:v = .slice (some a) len cap:=by simpa using hcs
  have each:∀i,i<len→∃y:Rf,w.cell? (a.add (i*2))=some (.int .i64 y.1)∧w.cell? ((a.add (i*2)).add 1)=some (.int .i64 y.2):=by
   intro i hil
   have hb':=hel i hil
   rw[List.getElem?_eq_getElem (by omega),hc,Option.bind_eq_some_iff]at hb'
   obtain⟨cs',hcs,hy⟩:=hb'
   obtain⟨_,hl2,hcell⟩:=World.cells?_some hcs
   obtain⟨c0,c1,rfl⟩:=list2 hl2
   obtain⟨xs,m,_,_,_,hxl,hg⟩:=DataW.trod_struct hs hy
   obtain⟨z0,z1,rfl⟩:=list2 (show xs.length=2 from hxl)
   have q0:DataW.trod enc P w base spare held m ti [c0]=some z0:=by simpa [o0,ki,g0] using hg 0 f0 rfl
   have q1:DataW.trod enc P w base spare held m ti [c1]=some z1:=by simpa [o1,ki,g1] using hg 1 f1 rfl
   obtain⟨x0,e0,_,w0⟩:=DataW.trod_int hi q0
   obtain⟨x1,e1,_,w1⟩:=DataW.trod_int hi q1
   simp only[List.cons.injEq,and_true]at e0 e1
   subst e0 e1
   have h0:=hcell 0 (by omega)
   have h1:=hcell 1 (by omega)
   refine⟨(x0,x1),?_,h1⟩
   have e:(a.add (i*2)).add 0=a.add (i*2):=by simp[Addr.add]
   rw[e]at h0
   exact h0
  obtain⟨es,hesl,hes⟩:=each_to refD each
  refine⟨es,⟨some a,cap,by rw[hesl],by omega,hm,(fun hn=>by cases hn),fun hp => ?_⟩⟩
  obtain⟨b,off,spot⟩:=a
  have hspot:spot=none:=by simpa [Addr.add] using World.cell?_spot (hes 0 (by omega)).1
  subst hspot
  refine⟨b,off,rfl,World.block_lt_of_cell? w _ (hes 0 (by omega)).1,fun i hi => ?_⟩
  have:=hes i (by omega)
  rw[Go.WideShapes.add_plain]at this
  refine⟨this.1,?_⟩
  have h2:=this.2
  rw[Go.WideShapes.add_plain]at h2
  exact h2
theorem open_objs {t e ti tr er:TypeId} {f0 f1 f2 f3 f4 r0 r1:Field} {fuel:Nat} {v:Value} {x:DataW H×List MemPlace}
    (ht:P.underlying t=some (.slice e)) (hs:P.underlying e=some (.struct #[f0,f1,f2,f3,f4])) (hc:P.cellsOf e=5) (ki:P.cellsOf ti=1) (kr:P.cellsOf tr=1)
    (o0:f0.offset=0) (o1:f1.offset=1) (o2:f2.offset=2) (o3:f3.offset=3) (o4:f4.offset=4) (hi:P.underlying ti=some (.int .i64)) (g0:f0.type=ti) (g1:f1.type=ti) (g2:f2.type=ti) (g3:f3.type=ti) (g4:f4.type=tr)
    (htr:P.underlying tr=some (.slice er)) (hsr:P.underlying er=some (.struct #[r0,r1])) (hcr:P.cellsOf er=2) (p0:r0.offset=0) (p1:r1.offset=1) (j0:r0.type=ti) (j1:r1.type=ti)
    (h:DataW.trod enc P w base spare held fuel t [v]=some x):∃ms:List MO,ObjsAt w v ms:=by
 rcases DataW.trod_slice ht h with ⟨h0,_⟩|⟨a,len,cap,elems,rest,n,_,hcs,_,hb,hl,hm,hlen,hel,_,_⟩
 ·obtain rfl:v = .slice none 0 0:=by simpa using h0
  exact⟨[],⟨none,0,rfl,Nat.le_refl _,by decide,fun _=>rfl,fun hp=>absurd hp (by simp)⟩,fun m hm=>by cases hm⟩
 ·obtain rfl:v = .slice (some a) len cap:=by simpa using hcs
  have each:∀i,i<len→∃y:MO,(w.cell? (a.add (i*5))=some (.int .i64 y.id)∧w.cell? ((a.add (i*5)).add 1)=some (.int .i64 y.cls)∧w.cell? ((a.add (i*5)).add 2)=some (.int .i64 y.fmt)∧w.cell? ((a.add (i*5)).add 3)=some (.int .i64 y.hash)∧w.cell? ((a.add (i*5)).add 4)=some y.sv)∧RefsAt w y.sv y.slots:=by
   intro i hil
   have hb':=hel i hil
   rw[List.getElem?_eq_getElem (by omega),hc,Option.bind_eq_some_iff]at hb'
   obtain⟨cs',hcs,hy⟩:=hb'
   obtain⟨_,hl2,hcell⟩:=World.cells?_some hcs
   obtain⟨c0,c1,c2,c3,c4,rfl⟩:=list5 hl2
   obtain⟨xs,m,_,_,_,hxl,hg⟩:=DataW.trod_struct hs hy
   obtain⟨z0,z1,z2,z3,z4,rfl⟩:=list5 (show xs.length=5 from hxl)
   have q0:DataW.trod enc P w base spare held m ti [c0]=some z0:=by simpa [o0,ki,g0] using hg 0 f0 rfl
   have q1:DataW.trod enc P w base spare held m ti [c1]=some z1:=by simpa [o1,ki,g1] using hg 1 f1 rfl
   have q2:DataW.trod enc P w base spare held m ti [c2]=some z2:=by simpa [o2,ki,g2] using hg 2 f2 rfl
   have q3:DataW.trod enc P w base spare held m ti [c3]=some z3:=by simpa [o3,ki,g3] using hg 3 f3 rfl
   have q4:DataW.trod enc P w base spare held m tr [c4]=some z4:=by simpa [o4,kr,g4] using hg 4 f4 rfl
   obtain⟨x0,e0,_,w0⟩:=DataW.trod_int hi q0
   obtain⟨x1,e1,_,w1⟩:=DataW.trod_int hi q1
   obtain⟨x2,e2,_,w2⟩:=DataW.trod_int hi q2
   obtain⟨x3,e3,_,w3⟩:=DataW.trod_int hi q3
   obtain⟨es,hes⟩:=open_refs htr hsr hcr ki p0 p1 hi j0 j1 q4
   simp only[List.cons.injEq,and_true]at e0 e1 e2 e3
   subst e0 e1 e2 e3
   have h0:=hcell 0 (by omega)
   have e:(a.add (i*5)).add 0=a.add (i*5):=by simp[Addr.add]
   rw[e]at h0
   exact⟨⟨x0,x1,x2,x3,c4,es⟩,⟨h0,hcell 1 (by omega),hcell 2 (by omega),hcell 3 (by omega),hcell 4 (by omega)⟩,hes⟩
  obtain⟨ms,hml,hms⟩:=each_to moD each
  refine⟨ms,⟨some a,cap,by rw[hml],by omega,hm,(fun hn=>by cases hn),fun hp => ?_⟩,fun m hm => ?_⟩
  ·obtain⟨b,off,spot⟩:=a
   have hspot:spot=none:=by simpa [Addr.add] using World.cell?_spot (hms 0 (by omega)).1.1
   subst hspot
   refine⟨b,off,rfl,World.block_lt_of_cell? w _ (hms 0 (by omega)).1.1,fun i hi => ?_⟩
   obtain⟨s0,s1,s2,s3,s4⟩:=(hms i (by omega)).1
   simp only[Go.WideShapes.add_plain]at s0 s1 s2 s3 s4
   exact⟨s0,s1,s2,s3,s4⟩
  ·obtain⟨i,hi,rfl⟩:=List.getElem_of_mem hm
   have:=(hms i (by omega)).2
   rwa [List.getD_eq_getElem?_getD,List.getElem?_eq_getElem hi]at this
theorem open_graph {r:Reach} {b0:Nat} {t tS eo ti tr er:TypeId} {k0 k1 k2 k3 k4 f0 f1 f2 f3 f4 r0 r1:Field} {v:Value} {d:DataW H} {p:List MemPlace}
    (hs:P.underlying t=some (.struct #[k0,k1,k2,k3,k4])) (hC:P.cellsOf t=5) (ki:P.cellsOf ti=1) (ko:P.cellsOf tS=1) (kr:P.cellsOf tr=1)
    (n0:k0.offset=0) (n1:k1.offset=1) (n2:k2.offset=2) (n3:k3.offset=3) (n4:k4.offset=4) (l0:k0.type=tS) (l1:k1.type=tr) (l2:k2.type=tr) (l3:k3.type=ti) (l4:k4.type=ti)
    (hto:P.underlying tS=some (.slice eo)) (hso:P.underlying eo=some (.struct #[f0,f1,f2,f3,f4])) (hco:P.cellsOf eo=5)
    (o0:f0.offset=0) (o1:f1.offset=1) (o2:f2.offset=2) (o3:f3.offset=3) (o4:f4.offset=4) (hi:P.underlying ti=some (.int .i64)) (g0:f0.type=ti) (g1:f1.type=ti) (g2:f2.type=ti) (g3:f3.type=ti) (g4:f4.type=tr)
    (htr:P.underlying tr=some (.slice er)) (hsr:P.underlying er=some (.struct #[r0,r1])) (hcr:P.cellsOf er=2) (p0:r0.offset=0) (p1:r1.offset=1) (j0:r0.type=ti) (j1:r1.type=ti)
    (hv:Value.okWide P w r b0 t v) (h:DataW.Trod enc P w base spare held t v d p) :
    ∃(o rr m:Value) (ms:List MO) (G:Gr),v=gv o rr m G.next G.seed∧GraphAt w o rr m ms G:=by
 obtain⟨cs,rfl,hsz⟩:=okWide_struct hs hv
 obtain⟨c0,c1,c2,c3,c4,rfl⟩:=array5 (hsz.trans hC)
 obtain⟨fuel,hf⟩:=h
 obtain⟨xs,n,_,hx,_,hlen,hg⟩:=DataW.trod_struct hs hf
 obtain⟨z0,z1,z2,z3,z4,rfl⟩:=list5 (show xs.length=5 from hlen)
 have q0:DataW.trod enc P w base spare held n tS [c0]=some z0:=by simpa [Value.cells,n0,ko,l0] using hg 0 k0 rfl
 have q1:DataW.trod enc P w base spare held n tr [c1]=some z1:=by simpa [Value.cells,n1,kr,l1] using hg 1 k1 rfl
 have q2:DataW.trod enc P w base spare held n tr [c2]=some z2:=by simpa [Value.cells,n2,kr,l2] using hg 2 k2 rfl
 have q3:DataW.trod enc P w base spare held n ti [c3]=some z3:=by simpa [Value.cells,n3,ki,l3] using hg 3 k3 rfl
 have q4:DataW.trod enc P w base spare held n ti [c4]=some z4:=by simpa [Value.cells,n4,ki,l4] using hg 4 k4 rfl
 obtain⟨x3,e3,_,w3⟩:=DataW.trod_int hi q3
 obtain⟨x4,e4,_,w4⟩:=DataW.trod_int hi q4
 simp only[List.cons.injEq,and_true]at e3 e4
 subst e3 e4
 obtain⟨ms,hO⟩:=open_objs hto hso hco ki kr o0 o1 o2 o3 o4 hi g0 g1 g2 g3 g4 htr hsr hcr p0 p1 j0 j1 q0
 obtain⟨rs,hR⟩:=open_refs htr hsr hcr ki p0 p1 hi j0 j1 q1
 obtain⟨ns,hM⟩:=open_refs htr hsr hcr ki p0 p1 hi j0 j1 q2
 exact⟨c0,c1,c2,ms,⟨ms.map MO.abs,rs,ns,x3,x4⟩,rfl,rfl,hO,hR,hM⟩
end
end Go.Proofs.YtkiognecebgaiaaGreatDoor.gr
namespace Go.Proofs.YtkiognecebgaiaaGreatDoor.ents
open Go.RowKit rows heads
end Go.Proofs.YtkiognecebgaiaaGreatDoor.ents
namespace Go.Proofs.YtkiognecebgaiaaGreatDoor.heads
open Go.RowKit
set_option maxRecDepth 100000
abbrev cv (s f c h:Int) (p m:Bool) (u:Value):Value:=.agg #[.int .i64 s,.int .i64 f,.int .i64 c,.int .i64 h,.bool p,.bool m,u]
abbrev cb (s f c h:Int) (p m:Bool) (u:Value):Obj:=.cells #[.int .i64 s,.int .i64 f,.int .i64 c,.int .i64 h,.bool p,.bool m,u] 195
def ChAt (w:World) (b:Nat) (s f c h:Int) (p m:Bool) (u:Value):Prop:=w.heap[b]? = some (.cells #[.int .i64 s,.int .i64 f,.int .i64 c,.int .i64 h,.bool p,.bool m,u] 195 (0,0))
theorem chAt_cells {w:World} {b:Nat} {s f c h:Int} {p m:Bool} {u:Value} (hh:ChAt w b s f c h p m u) :
    w.cell? ⟨b,0,none⟩=some (.int .i64 s)∧w.cell? ⟨b,1,none⟩=some (.int .i64 f)∧w.cell? ⟨b,2,none⟩=some (.int .i64 c)∧w.cell? ⟨b,3,none⟩=some (.int .i64 h)∧w.cell? ⟨b,4,none⟩=some (.bool p)∧w.cell? ⟨b,5,none⟩=some (.bool m)∧w.cell? ⟨b,6,none⟩=some u∧∀k,w.frozen? ⟨b,k,none⟩=false:=by
 unfold ChAt at hh
 refine⟨?_,?_,?_,?_,?_,?_,?_,fun k => ?_⟩
 all_goals simp[World.cell?, World.frozen?, hh]
theorem chAt_new (w:World) (s f c h:Int) (p m:Bool) (u:Value):ChAt (w.alloc (cb s f c h p m u)) w.heap.size s f c h p m u:=heap_alloc_new w _
theorem chAt_alloc {w:World} {b:Nat} {s f c h:Int} {p m:Bool} {u:Value} (hh:ChAt w b s f c h p m u) (o:Obj):ChAt (w.alloc o) b s f c h p m u:=(Below.heap_alloc w o b (lt_of_block hh)).trans hh
theorem chAt_below {w w':World} {b:Nat} {s f c h:Int} {p m:Bool} {u:Value} (T:ChAt w b s f c h p m u) (hb:Below w.heap.size w w'):ChAt w' b s f c h p m u:=(hb.block b (lt_of_block T)).trans T
theorem chAt_set0 {w:World} {b:Nat} {s f c h:Int} {p m:Bool} {u:Value} (hh:ChAt w b s f c h p m u) (x:Int):ChAt (w.setCell ⟨b,0,none⟩ (.int .i64 x)) b x f c h p m u:=(cells_setCell hh 0 _).trans rfl
theorem chAt_set1 {w:World} {b:Nat} {s f c h:Int} {p m:Bool} {u:Value} (hh:ChAt w b s f c h p m u) (x:Int):ChAt (w.setCell ⟨b,1,none⟩ (.int .i64 x)) b s x c h p m u:=(cells_setCell hh 1 _).trans rfl
theorem chAt_set2 {w:World} {b:Nat} {s f c h:Int} {p m:Bool} {u:Value} (hh:ChAt w b s f c h p m u) (x:Int):ChAt (w.setCell ⟨b,2,none⟩ (.int .i64 x)) b s f x h p m u:=(cells_setCell hh 2 _).trans rfl
theorem chAt_set3 {w:World} {b:Nat} {s f c h:Int} {p m:Bool} {u:Value} (hh:ChAt w b s f c h p m u) (x:Int):ChAt (w.setCell ⟨b,3,none⟩ (.int .i64 x)) b s f c x p m u:=(cells_setCell hh 3 _).trans rfl
theorem chAt_set4 {w:World} {b:Nat} {s f c h:Int} {p m:Bool} {u:Value} (hh:ChAt w b s f c h p m u) (x:Bool):ChAt (w.setCell ⟨b,4,none⟩ (.bool x)) b s f c h x m u:=(cells_setCell hh 4 _).trans rfl
theorem chAt_set5 {w:World} {b:Nat} {s f c h:Int} {p m:Bool} {u:Value} (hh:ChAt w b s f c h p m u) (x:Bool):ChAt (w.setCell ⟨b,5,none⟩ (.bool x)) b s f c h p x u:=(cells_setCell hh 5 _).trans rfl
theorem chAt_set6 {w:World} {b:Nat} {s f c h:Int} {p m:Bool} {u:Value} (hh:ChAt w b s f c h p m u) (x:Value):ChAt (w.setCell ⟨b,6,none⟩ x) b s f c h p m x:=(cells_setCell hh 6 _).trans rfl
theorem seven_set {X:World} {b:Nat} {s' f' c' h':Int} {p' m':Bool} {u':Value} (T:ChAt X b s' f' c' h' p' m' u') (s f c h:Int) (p m:Bool) (u:Value) :
    ChAt (((((((X.setCell ⟨b,0,none⟩ (.int .i64 s)).setCell ⟨b,1,none⟩ (.int .i64 f)).setCell ⟨b,2,none⟩ (.int .i64 c)).setCell ⟨b,3,none⟩ (.int .i64 h)).setCell ⟨b,4,none⟩ (.bool p)).setCell ⟨b,5,none⟩ (.bool m)).setCell ⟨b,6,none⟩ u) b s f c h p m u:=
 chAt_set6 (chAt_set5 (chAt_set4 (chAt_set3 (chAt_set2 (chAt_set1 (chAt_set0 T _) _) _) _) _) _) _
theorem seven_below {n:Nat} {w X:World} {b:Nat} (hB:Below n w X) (hb:n≤b) (s f c h:Int) (p m:Bool) (u:Value):Below n w (((((((X.setCell ⟨b,0,none⟩ (.int .i64 s)).setCell ⟨b,1,none⟩ (.int .i64 f)).setCell ⟨b,2,none⟩ (.int .i64 c)).setCell ⟨b,3,none⟩ (.int .i64 h)).setCell ⟨b,4,none⟩ (.bool p)).setCell ⟨b,5,none⟩ (.bool m)).setCell ⟨b,6,none⟩ u):=
 (six_below hB hb s f c h p m).setCell (p:=⟨b,6,none⟩) hb _
theorem res_chunk_one {fn:Func} {tmps:Array Value} {X:World} {j k b:Nat} {s f c h:Int} {p m:Bool} {u v:Value} (hf:fn.results=#[.cell j 195,.tmp k]) (h2:tmps[j]? = some (.pointer (some ⟨b,0,none⟩))) (hk:tmps[k]? = some v) (hX:ChAt X b s f c h p m u) :
    (results fn tmps).run Tryz.prog X = .ok (.tuple #[cv s f c h p m u,v]) X:=by
 obtain⟨k0,k1,k2,k3,k4,k5,k6,_⟩:=chAt_cells hX
 clear hX
 simp[results,hf,h2,hk,go_sem,k0,k1,k2,k3,k4,k5,k6]
theorem res_head_one {fn:Func} {tmps:Array Value} {X:World} {j k b:Nat} {s f c h:Int} {p m:Bool} {v:Value} (hf:fn.results=#[.cell j 101,.tmp k]) (h2:tmps[j]? = some (.pointer (some ⟨b,0,none⟩))) (hk:tmps[k]? = some v) (hX:HeadAt X b s f c h p m) :
    (results fn tmps).run Tryz.prog X = .ok (.tuple #[hv s f c h p m,v]) X:=by
 obtain⟨k0,k1,k2,k3,k4,k5,_⟩:=headAt_cells hX
 clear hX
 simp[results,hf,h2,hk,go_sem,k0,k1,k2,k3,k4,k5]
theorem size_any (s f c h:Int) (p m:Bool) (a:Option Addr) (len cap:Nat) (w:World) :
    Calls Tryz.prog 207 #[cv s f c h p m (.slice a len cap)] w fun e w'=>e = .returned (.int .i64 len)∧w'=w.alloc (cb s f c h p m (.slice a len cap)):=by
 go_enter Tryz.func207,Tryz.ntmps207
 go_wp2
 go_ret
 exact⟨rfl,rfl⟩
theorem isNote_any (s f c h:Int) (p m:Bool) (u:Value) (w:World) :
    Calls Tryz.prog 180 #[cv s f c h p m u] w fun e w'=>e = .returned (.bool (f==7))∧w'=w.alloc (cb s f c h p m u):=by
 go_enter Tryz.func180,Tryz.ntmps180
 go_wp2
 go_ret
 exact⟨rfl,rfl⟩
end Go.Proofs.YtkiognecebgaiaaGreatDoor.heads
