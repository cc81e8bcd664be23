/- Packed, of the program and of the specif -/
import Derived.Test.YtocidankimefpaaGreatDoorHeadOk
import Derived.Test.YtocidankimefpaaGreatDoorM1
import Derived.Maps.AppendAt
set_option maxRecDepth 100000
namespace Go.Proofs.YtocidankimefpaaGreatDoor.heads
open Go.RowKit
def pk (s f c h:Int) (p m:Bool):Int:=s+f*64+c*512+h*65536+(if p then 4294967296 else 0)+(if m then 8589934592 else 0)
def pkd (s f c h:Int) (p m:Bool):Int:=if hok s f c h p m=true then pk s f c h p m else -1
theorem nh (s f c h:Int) (p m:Bool) (w:World) :
    Calls Tryz.prog 24 #[hv s f c h p m] w fun e w'=>e = .returned (.int .i64 (pkd s f c h p m))∧w'=(w.alloc (hb s f c h p m)).alloc (hb s f c h p m):=by
 cases hk:hok s f c h p m
 ·go_enter Tryz.func24,Tryz.ntmps24;go_wp2_with (go_at_call 53;refine (sx _ _ _ _ _ _ _).mono ?_;rintro e w' ⟨rfl,rfl⟩);go_ret;exact⟨by simp[pkd,hk],rfl⟩
 ·obtain⟨b1,b2,b3,b4,b5,b6,b7,b8⟩:=iq hk;cases p<;>cases m
  all_goals
   go_enter Tryz.func24,Tryz.ntmps24;go_wp2_with (go_at_call 53;refine (sx _ _ _ _ _ _ _).mono ?_;rintro e w' ⟨rfl,rfl⟩);go_ret;exact⟨by simp[pkd,pk,hk],rfl⟩
theorem wQ (s f c h:Int) (p m:Bool) (w:World) (hk:hok s f c h p m=true) :
    Calls Tryz.prog 46 #[hv s f c h p m] w fun e w'=>e = .returned (.int .i64 (pk s f c h p m))∧w'=w.alloc (hb s f c h p m):=by
 obtain⟨b1,b2,b3,b4,b5,b6,b7,b8⟩:=iq hk;clear hk;cases p<;>cases m
 all_goals
  go_enter Tryz.func46,Tryz.ntmps46;go_wp2;go_ret;exact⟨by simp[pk];omega,rfl⟩
def sz (n:Int):Int:=if inR 0 20 n=true then n+1+(n+1) % 2 else 0
theorem zI (n:Int) (w:World) :
    Calls Tryz.prog 200 #[.int .i64 n] w fun e w'=>e = .returned (.int .i64 (sz n))∧w'=w:=by
 have ev:∀(k:Int) (w:World),0≤k→k≤100→Calls Tryz.prog 207 #[.int .i64 k] w fun e w'=>e = .returned (.int .i64 (k+k % 2))∧w'=w:=by
  intro k w k0 k1;go_enter Tryz.func207,Tryz.ntmps207;go_wp2;go_ret;exact⟨rfl,rfl⟩
 cases i:inR 0 20 n
 ·go_enter Tryz.func200,Tryz.ntmps200;go_wp2_with (go_at_call 104;refine (eS _ _).mono ?_;rintro e w' ⟨rfl,rfl⟩);go_ret;exact⟨by simp[sz,i],rfl⟩
 ·obtain⟨b1,b2⟩:=gI i;go_enter Tryz.func200,Tryz.ntmps200;go_wp2_with (first|(go_at_call 104;refine (eS _ _).mono ?_;rintro e w' ⟨rfl,rfl⟩)|(go_at_call 207;refine (ev _ _ (by omega) (by omega)).mono ?_;rintro e w' ⟨rfl,rfl⟩));go_ret;exact⟨by simp[sz,i],rfl⟩
def bK (w:World) (b:Nat) (s f c h:Int) (p m:Bool):Prop:=w.heap[b]? = some (.cells #[.int .i64 s,.int .i64 f,.int .i64 c,.int .i64 h,.bool p,.bool m] 54 (0,0))
theorem aO {w:World} {b:Nat} {s f c h:Int} {p m:Bool} (hh:bK w b s f c h p m) :
    w.cell? ⟨b,0,none⟩=some (.int .i64 s)∧w.cell? ⟨b,1,none⟩=some (.int .i64 f)∧w.cell? ⟨b,2,none⟩=some (.int .i64 c)∧w.cell? ⟨b,3,none⟩=some (.int .i64 h)∧w.cell? ⟨b,4,none⟩=some (.bool p)∧w.cell? ⟨b,5,none⟩=some (.bool m)∧∀k,w.frozen? ⟨b,k,none⟩=false:=by
 unfold bK at hh;refine⟨?_,?_,?_,?_,?_,?_,fun k => ?_⟩
 all_goals simp[World.cell?, World.frozen?, hh]
theorem aq {w:World} {b:Nat} {c:Array Value} {t:TypeId} (h:w.heap[b]? = some (.cells c t (0,0))) (k:Nat) (u:Value) :
    (w.setCell ⟨b,k,none⟩ u).heap[b]? = some (.cells (c.setIfInBounds k u) t (0,0)):=by
 have hlt:=lt_of_block h;have h':w.heap[b] = .cells c t (0,0):=by simpa [Array.getElem?_eq_getElem hlt] using h
 show (w.heap.modify b _)[b]? = _
 rw[Array.getElem?_eq_getElem (by simpa using hlt),Array.getElem_modify_self,h'];rfl
theorem ot {w:World} {b:Nat} {s f c h:Int} {p m:Bool} (hh:bK w b s f c h p m) (o:Obj):bK (w.alloc o) b s f c h p m:=(Below.heap_alloc w o b (lt_of_block hh)).trans hh
theorem cH (w:World) (s f c h:Int) (p m:Bool):bK (w.alloc (hb s f c h p m)) w.heap.size s f c h p m:=heap_alloc_new w _
theorem wR {w:World} {b:Nat} {s f c h:Int} {p m:Bool} (hh:bK w b s f c h p m) (x:Int):bK (w.setCell ⟨b,0,none⟩ (.int .i64 x)) b x f c h p m:=(aq hh 0 _).trans rfl
theorem wT {w:World} {b:Nat} {s f c h:Int} {p m:Bool} (hh:bK w b s f c h p m) (x:Int):bK (w.setCell ⟨b,1,none⟩ (.int .i64 x)) b s x c h p m:=(aq hh 1 _).trans rfl
theorem wU {w:World} {b:Nat} {s f c h:Int} {p m:Bool} (hh:bK w b s f c h p m) (x:Int):bK (w.setCell ⟨b,2,none⟩ (.int .i64 x)) b s f x h p m:=(aq hh 2 _).trans rfl
theorem wV {w:World} {b:Nat} {s f c h:Int} {p m:Bool} (hh:bK w b s f c h p m) (x:Int):bK (w.setCell ⟨b,3,none⟩ (.int .i64 x)) b s f c x p m:=(aq hh 3 _).trans rfl
theorem wW {w:World} {b:Nat} {s f c h:Int} {p m:Bool} (hh:bK w b s f c h p m) (x:Bool):bK (w.setCell ⟨b,4,none⟩ (.bool x)) b s f c h x m:=(aq hh 4 _).trans rfl
theorem wX {w:World} {b:Nat} {s f c h:Int} {p m:Bool} (hh:bK w b s f c h p m) (x:Bool):bK (w.setCell ⟨b,5,none⟩ (.bool x)) b s f c h p x:=(aq hh 5 _).trans rfl
theorem wY {fn:Func} {tmps:Array Value} {X:World} {j b:Nat} {s f c h:Int} {p m:Bool} (hf:fn.results=#[.cell j 54]) (h2:tmps[j]? = some (.pointer (some ⟨b,0,none⟩))) (hX:bK X b s f c h p m) :
    (results fn tmps).run Tryz.prog X = .ok (hv s f c h p m) X:=by
 obtain⟨k0,k1,k2,k3,k4,k5,_⟩:=aO hX;clear hX;simp[results,hf,h2,go_sem,k0,k1,k2,k3,k4,k5]
theorem bG {w w':World} {b:Nat} {s f c h:Int} {p m:Bool} (T:bK w b s f c h p m) (hb:Below w.heap.size w w'):bK w' b s f c h p m:=(hb.block b (lt_of_block T)).trans T
theorem jK {X:World} {b:Nat} {s' f' c' h':Int} {p' m':Bool} (T:bK X b s' f' c' h' p' m') (s f c h:Int) (p m:Bool) :
    bK ((((((X.setCell ⟨b,0,none⟩ (.int .i64 s)).setCell ⟨b,1,none⟩ (.int .i64 f)).setCell ⟨b,2,none⟩ (.int .i64 c)).setCell ⟨b,3,none⟩ (.int .i64 h)).setCell ⟨b,4,none⟩ (.bool p)).setCell ⟨b,5,none⟩ (.bool m)) b s f c h p m:=
 wX (wW (wV (wU (wT (wR T _) _) _) _) _) _
theorem fk {n:Nat} {w X:World} {b:Nat} (hB:Below n w X) (hb:n≤b) (s f c h:Int) (p m:Bool):Below n w ((((((X.setCell ⟨b,0,none⟩ (.int .i64 s)).setCell ⟨b,1,none⟩ (.int .i64 f)).setCell ⟨b,2,none⟩ (.int .i64 c)).setCell ⟨b,3,none⟩ (.int .i64 h)).setCell ⟨b,4,none⟩ (.bool p)).setCell ⟨b,5,none⟩ (.bool m)):=
 (((((hB.setCell (p:=⟨b,0,none⟩) hb _).setCell (p:=⟨b,1,none⟩) hb _).setCell (p:=⟨b,2,none⟩) hb _).setCell (p:=⟨b,3,none⟩) hb _).setCell (p:=⟨b,4,none⟩) hb _).setCell (p:=⟨b,5,none⟩) hb _
end Go.Proofs.YtocidankimefpaaGreatDoor.heads
namespace Go.Proofs.YtocidankimefpaaGreatDoor.ents
open Go.RowKit rows heads
end Go.Proofs.YtocidankimefpaaGreatDoor.ents
namespace Go.Proofs.YtocidankimefpaaGreatDoor.heads
open Go.RowKit
abbrev cv (s f c h:Int) (p m:Bool) (u:Value):Value:=.agg #[.int .i64 s,.int .i64 f,.int .i64 c,.int .i64 h,.bool p,.bool m,u]
abbrev cb (s f c h:Int) (p m:Bool) (u:Value):Obj:=.cells #[.int .i64 s,.int .i64 f,.int .i64 c,.int .i64 h,.bool p,.bool m,u] 56
def lR (w:World) (b:Nat) (s f c h:Int) (p m:Bool) (u:Value):Prop:=w.heap[b]? = some (.cells #[.int .i64 s,.int .i64 f,.int .i64 c,.int .i64 h,.bool p,.bool m,u] 56 (0,0))
theorem dJ {w:World} {b:Nat} {s f c h:Int} {p m:Bool} {u:Value} (hh:lR w b s f c h p m u) :
    w.cell? ⟨b,0,none⟩=some (.int .i64 s)∧w.cell? ⟨b,1,none⟩=some (.int .i64 f)∧w.cell? ⟨b,2,none⟩=some (.int .i64 c)∧w.cell? ⟨b,3,none⟩=some (.int .i64 h)∧w.cell? ⟨b,4,none⟩=some (.bool p)∧w.cell? ⟨b,5,none⟩=some (.bool m)∧w.cell? ⟨b,6,none⟩=some u∧∀k,w.frozen? ⟨b,k,none⟩=false:=by
 unfold lR at hh;refine⟨?_,?_,?_,?_,?_,?_,?_,fun k => ?_⟩
 all_goals simp[World.cell?, World.frozen?, hh]
theorem ku (w:World) (s f c h:Int) (p m:Bool) (u:Value):lR (w.alloc (cb s f c h p m u)) w.heap.size s f c h p m u:=heap_alloc_new w _
theorem iQ {w:World} {b:Nat} {s f c h:Int} {p m:Bool} {u:Value} (hh:lR w b s f c h p m u) (o:Obj):lR (w.alloc o) b s f c h p m u:=(Below.heap_alloc w o b (lt_of_block hh)).trans hh
theorem ni {w w':World} {b:Nat} {s f c h:Int} {p m:Bool} {u:Value} (T:lR w b s f c h p m u) (hb:Below w.heap.size w w'):lR w' b s f c h p m u:=(hb.block b (lt_of_block T)).trans T
theorem Bj {w:World} {b:Nat} {s f c h:Int} {p m:Bool} {u:Value} (hh:lR w b s f c h p m u) (x:Int):lR (w.setCell ⟨b,0,none⟩ (.int .i64 x)) b x f c h p m u:=(aq hh 0 _).trans rfl
theorem Bk {w:World} {b:Nat} {s f c h:Int} {p m:Bool} {u:Value} (hh:lR w b s f c h p m u) (x:Int):lR (w.setCell ⟨b,1,none⟩ (.int .i64 x)) b s x c h p m u:=(aq hh 1 _).trans rfl
theorem Bl {w:World} {b:Nat} {s f c h:Int} {p m:Bool} {u:Value} (hh:lR w b s f c h p m u) (x:Int):lR (w.setCell ⟨b,2,none⟩ (.int .i64 x)) b s f x h p m u:=(aq hh 2 _).trans rfl
theorem Bm {w:World} {b:Nat} {s f c h:Int} {p m:Bool} {u:Value} (hh:lR w b s f c h p m u) (x:Int):lR (w.setCell ⟨b,3,none⟩ (.int .i64 x)) b s f c x p m u:=(aq hh 3 _).trans rfl
theorem Bn {w:World} {b:Nat} {s f c h:Int} {p m:Bool} {u:Value} (hh:lR w b s f c h p m u) (x:Bool):lR (w.setCell ⟨b,4,none⟩ (.bool x)) b s f c h x m u:=(aq hh 4 _).trans rfl
theorem Bp {w:World} {b:Nat} {s f c h:Int} {p m:Bool} {u:Value} (hh:lR w b s f c h p m u) (x:Bool):lR (w.setCell ⟨b,5,none⟩ (.bool x)) b s f c h p x u:=(aq hh 5 _).trans rfl
theorem Bq {w:World} {b:Nat} {s f c h:Int} {p m:Bool} {u:Value} (hh:lR w b s f c h p m u) (x:Value):lR (w.setCell ⟨b,6,none⟩ x) b s f c h p m x:=(aq hh 6 _).trans rfl
theorem iR {X:World} {b:Nat} {s' f' c' h':Int} {p' m':Bool} {u':Value} (T:lR X b s' f' c' h' p' m' u') (s f c h:Int) (p m:Bool) (u:Value) :
    lR (((((((X.setCell ⟨b,0,none⟩ (.int .i64 s)).setCell ⟨b,1,none⟩ (.int .i64 f)).setCell ⟨b,2,none⟩ (.int .i64 c)).setCell ⟨b,3,none⟩ (.int .i64 h)).setCell ⟨b,4,none⟩ (.bool p)).setCell ⟨b,5,none⟩ (.bool m)).setCell ⟨b,6,none⟩ u) b s f c h p m u:=
 Bq (Bp (Bn (Bm (Bl (Bk (Bj T _) _) _) _) _) _) _
theorem fL {n:Nat} {w X:World} {b:Nat} (hB:Below n w X) (hb:n≤b) (s f c h:Int) (p m:Bool) (u:Value):Below n w (((((((X.setCell ⟨b,0,none⟩ (.int .i64 s)).setCell ⟨b,1,none⟩ (.int .i64 f)).setCell ⟨b,2,none⟩ (.int .i64 c)).setCell ⟨b,3,none⟩ (.int .i64 h)).setCell ⟨b,4,none⟩ (.bool p)).setCell ⟨b,5,none⟩ (.bool m)).setCell ⟨b,6,none⟩ u):=
 (fk hB hb s f c h p m).setCell (p:=⟨b,6,none⟩) hb _
theorem dx {fn:Func} {tmps:Array Value} {X:World} {j k b:Nat} {s f c h:Int} {p m:Bool} {u v:Value} (hf:fn.results=#[.cell j 56,.tmp k]) (h2:tmps[j]? = some (.pointer (some ⟨b,0,none⟩))) (hk:tmps[k]? = some v) (hX:lR X b s f c h p m u) :
    (results fn tmps).run Tryz.prog X = .ok (.tuple #[cv s f c h p m u,v]) X:=by
 obtain⟨k0,k1,k2,k3,k4,k5,k6,_⟩:=dJ hX;clear hX;simp[results,hf,h2,hk,go_sem,k0,k1,k2,k3,k4,k5,k6]
theorem jL {fn:Func} {tmps:Array Value} {X:World} {j k b:Nat} {s f c h:Int} {p m:Bool} {v:Value} (hf:fn.results=#[.cell j 54,.tmp k]) (h2:tmps[j]? = some (.pointer (some ⟨b,0,none⟩))) (hk:tmps[k]? = some v) (hX:bK X b s f c h p m) :
    (results fn tmps).run Tryz.prog X = .ok (.tuple #[hv s f c h p m,v]) X:=by
 obtain⟨k0,k1,k2,k3,k4,k5,_⟩:=aO hX;clear hX;simp[results,hf,h2,hk,go_sem,k0,k1,k2,k3,k4,k5]
theorem yD (s f c h:Int) (p m:Bool) (a:Option Addr) (len cap:Nat) (w:World) :
    Calls Tryz.prog 78 #[cv s f c h p m (.slice a len cap)] w fun e w'=>e = .returned (.int .i64 len)∧w'=w.alloc (cb s f c h p m (.slice a len cap)):=by
 go_enter Tryz.func78,Tryz.ntmps78;go_wp2;go_ret;exact⟨rfl,rfl⟩
theorem kx (s f c h:Int) (p m:Bool) (u:Value) (w:World) :
    Calls Tryz.prog 70 #[cv s f c h p m u] w fun e w'=>e = .returned (.bool (f==7))∧w'=w.alloc (cb s f c h p m u):=by
 go_enter Tryz.func70,Tryz.ntmps70;go_wp2;go_ret;exact⟨rfl,rfl⟩
end Go.Proofs.YtocidankimefpaaGreatDoor.heads
namespace Go.Proofs.YtocidankimefpaaGreatDoor.gr
open Go.RowKit rows heads
theorem Hj:(Tryz.prog.info? 60).map (fun i=>(i.zero,i.size,i.bytes))=some (some (.agg #[.int .i64 0,.int .i64 0,.int .i64 0,.int .i64 0,.slice none 0 0]),5,56):=by kernel_rfl
def fh (w:World) (b:Nat) (t:TypeId) (c0 c1 c2 c3 c4:Value):Prop:=w.heap[b]? = some (.cells #[c0,c1,c2,c3,c4] t (0,0))
theorem ak {w:World} {b:Nat} {t:TypeId} {c0 c1 c2 c3 c4:Value} (h:fh w b t c0 c1 c2 c3 c4):w.cell? ⟨b,0,none⟩=some c0∧w.cell? ⟨b,1,none⟩=some c1∧w.cell? ⟨b,2,none⟩=some c2∧w.cell? ⟨b,3,none⟩=some c3∧w.cell? ⟨b,4,none⟩=some c4∧∀k,w.frozen? ⟨b,k,none⟩=false:=by
 unfold fh at h;refine⟨?_,?_,?_,?_,?_,fun k => ?_⟩
 all_goals simp[World.cell?, World.frozen?, h]
theorem aJ {w w':World} {b:Nat} {t:TypeId} {c0 c1 c2 c3 c4:Value} (h:fh w b t c0 c1 c2 c3 c4) (hb:Below w.heap.size w w'):fh w' b t c0 c1 c2 c3 c4:=(hb.block b (lt_of_block h)).trans h
theorem fX (w:World) (t:TypeId) (c0 c1 c2 c3 c4:Value):fh (w.alloc (.cells #[c0,c1,c2,c3,c4] t)) w.heap.size t c0 c1 c2 c3 c4:=heap_alloc_new w _
theorem pR {w:World} {b:Nat} {t:TypeId} {c0 c1 c2 c3 c4:Value} (h:fh w b t c0 c1 c2 c3 c4) (u:Value):fh (w.setCell ⟨b,0,none⟩ u) b t u c1 c2 c3 c4:=(aq h 0 u).trans (by simp)
theorem pS {w:World} {b:Nat} {t:TypeId} {c0 c1 c2 c3 c4:Value} (h:fh w b t c0 c1 c2 c3 c4) (u:Value):fh (w.setCell ⟨b,1,none⟩ u) b t c0 u c2 c3 c4:=(aq h 1 u).trans (by simp)
theorem lS {w:World} {b:Nat} {t:TypeId} {c0 c1 c2 c3 c4:Value} (h:fh w b t c0 c1 c2 c3 c4) (u:Value):fh (w.setCell ⟨b,2,none⟩ u) b t c0 c1 u c3 c4:=(aq h 2 u).trans (by simp)
theorem uG {w:World} {b:Nat} {t:TypeId} {c0 c1 c2 c3 c4:Value} (h:fh w b t c0 c1 c2 c3 c4) (u:Value):fh (w.setCell ⟨b,3,none⟩ u) b t c0 c1 c2 u c4:=(aq h 3 u).trans (by simp)
theorem uI {w:World} {b:Nat} {t:TypeId} {c0 c1 c2 c3 c4:Value} (h:fh w b t c0 c1 c2 c3 c4) (u:Value):fh (w.setCell ⟨b,4,none⟩ u) b t c0 c1 c2 c3 u:=(aq h 4 u).trans (by simp)
theorem pT {w:World} {b:Nat} {t:TypeId} {c0 c1 c2 c3 c4:Value} (h:fh w b t c0 c1 c2 c3 c4) (u0 u1 u2 u3 u4:Value):fh (((((w.setCell ⟨b,0,none⟩ u0).setCell ⟨b,1,none⟩ u1).setCell ⟨b,2,none⟩ u2).setCell ⟨b,3,none⟩ u3).setCell ⟨b,4,none⟩ u4) b t u0 u1 u2 u3 u4:=
 uI (uG (lS (pS (pR h _) _) _) _) _
theorem wZ {n:Nat} {w X:World} {b:Nat} (hB:Below n w X) (hb:n≤b) (u0 u1 u2 u3 u4:Value):Below n w (((((X.setCell ⟨b,0,none⟩ u0).setCell ⟨b,1,none⟩ u1).setCell ⟨b,2,none⟩ u2).setCell ⟨b,3,none⟩ u3).setCell ⟨b,4,none⟩ u4):=
 ((((hB.setCell (p:=⟨b,0,none⟩) hb _).setCell (p:=⟨b,1,none⟩) hb _).setCell (p:=⟨b,2,none⟩) hb _).setCell (p:=⟨b,3,none⟩) hb _).setCell (p:=⟨b,4,none⟩) hb _
theorem nj {X:World} {b:Nat} (u0 u1 u2 u3 u4:Value):Ch [b] X (((((X.setCell ⟨b,0,none⟩ u0).setCell ⟨b,1,none⟩ u1).setCell ⟨b,2,none⟩ u2).setCell ⟨b,3,none⟩ u3).setCell ⟨b,4,none⟩ u4):=by
 have one:∀(Y:World) (k:Nat) (u:Value),Ch [b] Y (Y.setCell ⟨b,k,none⟩ u):=fun Y k u=>⟨rfl,rfl,rfl,by simp,fun j _ hn=>Below.heap_setCell Y _ u j (fun e=>hn (by simp[e]))⟩
 exact ((((one _ 0 _).trans (one _ 1 _)).trans (one _ 2 _)).trans (one _ 3 _)).trans (one _ 4 _)
def slotsLen:List MO→Nat
 | []=>0
 |m :: ms=>m.slots.length+slotsLen ms
def mk1 (K:Nat) (m:MO):MO:=⟨(K:Int),(K:Int)+1,(K:Int)+1+1,(K:Int)+1+1+1,m.sv,Cm (K+4) m.slots.length⟩
def kAt (k0:Nat) (ms:List MO) (j:Nat):Nat:=k0+4*j+2*slotsLen (ms.take j)
def Lm (k0:Nat) (ms:List MO) (i:Nat):List MO:=(List.range ms.length).map (fun j=>if j<i then mk1 (kAt k0 ms j) (ms.getD j moD) else ms.getD j moD)
theorem apart {v:Value}:∀ {ms:List MO},(blk v++gD ms).Nodup→(∀j,j<ms.length→∀k ∈ blk (ms.getD j moD).sv,k ∉ blk v)∧∀i j,i<ms.length→j<ms.length→i≠j→∀k ∈ blk (ms.getD i moD).sv,k ∉ blk (ms.getD j moD).sv
 | [],_=>⟨fun j h=>by simp at h,fun i j h=>by simp at h⟩
 |m :: ms,h=>by
  rw[List.nodup_append]at h;obtain⟨h1,h2,h3⟩:=h;have eb:gD (m :: ms)=blk m.sv++gD ms:=by simp[gD]
  rw[eb]at h2 h3;rw[List.nodup_append]at h2
  have ih:=apart (v:=v) (ms:=ms) (by
   rw[List.nodup_append];exact⟨h1,h2.2.1,fun a ha b hb=>h3 a ha b (by simp[hb])⟩)
  have inb:∀j,j<ms.length→∀k ∈ blk (ms.getD j moD).sv,k ∈ gD ms:=fun j hj k hk=>by
   simp only[gD,List.mem_flatMap];exact⟨_,cZ hj,hk⟩
  refine⟨fun j hj k hk e => ?_,fun i j hi hj hne k hk e => ?_⟩
  ·cases j with
   |zero=>exact h3 k e k (by simp only[List.mem_append];exact .inl (by simpa using hk)) rfl
   |succ j=>exact ih.1 j (by simpa using hj) k (by simpa using hk) e
  ·cases i with
   |zero=>
    cases j with
    |zero=>exact hne rfl
    |succ j=>exact h2.2.2 k (by simpa using hk) k (inb j (by simpa using hj) k (by simpa using e)) rfl
   |succ i=>
    cases j with
    |zero=>exact h2.2.2 k (by simpa using e) k (inb i (by simpa using hi) k (by simpa using hk)) rfl
    |succ j=>exact ih.2 i j (by simpa using hi) (by simpa using hj) (by omega) k (by simpa using hk) (by simpa using e)
structure Gr where
 objs:List Ob
 roots:List Rf
 a7:List Rf
 next:Int
 seed:Int
abbrev gv (o r m:Value) (n s:Int):Value:=.agg #[o,r,m,.int .i64 n,.int .i64 s]
abbrev gb (o r m:Value) (n s:Int):Obj:=.cells #[o,r,m,.int .i64 n,.int .i64 s] 50
def gy (w:World) (o r m:Value) (ms:List MO) (G:Gr):Prop:=ms.map MO.abs=G.objs∧qz w o ms∧cM w r G.roots∧cM w m G.a7
def cj (o r m:Value) (ms:List MO):List Nat:=blk o++gD ms++blk r++blk m
def ja (w:World) (base:Nat) (o r m:Value) (ms:List MO) (G:Gr):Prop:=ms.map MO.abs=G.objs∧Er w base o ms∧fJ w base r G.roots∧fJ w base m G.a7∧(cj o r m ms).Nodup
theorem fM {w:World} {base:Nat} {o r m:Value} {ms:List MO} {G:Gr} (h:ja w base o r m ms G):gy w o r m ms G:=⟨h.1,jU h.2.1,cB h.2.2.1,cB h.2.2.2.1⟩
theorem lT {w w':World} {o r m:Value} {ms:List MO} {G:Gr} (h:gy w o r m ms G) (hb:Below w.heap.size w w'):gy w' o r m ms G:=⟨h.1,jT h.2.1 hb,aU h.2.2.1 hb,aU h.2.2.2 hb⟩
theorem cI {w w':World} {base:Nat} {o r m:Value} {ms:List MO} {G:Gr} (h:ja w base o r m ms G) (hb:Below w.heap.size w w'):ja w' base o r m ms G:=⟨h.1,Ab h.2.1 hb,fc h.2.2.1 hb,fc h.2.2.2.1 hb,h.2.2.2.2⟩
theorem uJ {w:World} {base base':Nat} {o r m:Value} {ms:List MO} {G:Gr} (h:ja w base o r m ms G) (hb:base'≤base):ja w base' o r m ms G:=⟨h.1,Co h.2.1 hb,qy h.2.2.1 hb,qy h.2.2.2.1 hb,h.2.2.2.2⟩
theorem dz {w:World} {base:Nat} {o r m:Value} {ms:List MO} {G:Gr} (h:ja w base o r m ms G):∀k ∈ cj o r m ms,base≤k∧k<w.heap.size:=by
 intro k hk;simp only[cj,List.mem_append]at hk;rcases hk with ((hk|hk)|hk)|hk
 ·exact Cp h.2.1 k (by simp only[List.mem_append];exact .inl hk)
 ·exact Cp h.2.1 k (by simp only[List.mem_append];exact .inr hk)
 ·exact aM h.2.2.1 k hk
 ·exact aM h.2.2.2.1 k hk
theorem fN {S:List Nat} {w w':World} {base:Nat} {o r m:Value} {ms:List MO} {G:Gr} (h:ja w base o r m ms G) (hc:Ch S w w') (hd:∀k ∈ cj o r m ms,k ∉ S):ja w' base o r m ms G:=by
 refine⟨h.1,qA h.2.1 hc (fun k hk=>hd k ?_),aE h.2.2.1 hc (fun k hk=>hd k ?_),aE h.2.2.2.1 hc (fun k hk=>hd k ?_),h.2.2.2.2⟩
 ·simp only[cj,List.mem_append]at hk ⊢; exact .inl (.inl hk)
 ·simp only[cj,List.mem_append]at hk ⊢; exact .inl (.inr hk)
 ·simp only[cj,List.mem_append]at hk ⊢; exact .inr hk
theorem Hk {fn:Func} {tmps:Array Value} {X:World} {j b:Nat} {a1 a2 a3:Option Addr} {n1 c1 n2 c2 n3 c3:Nat} {x y:Int} (hf:fn.results=#[.cell j 50]) (h2:tmps[j]? = some (.pointer (some ⟨b,0,none⟩))) (hX:fh X b 50 (.slice a1 n1 c1) (.slice a2 n2 c2) (.slice a3 n3 c3) (.int .i64 x) (.int .i64 y)) :
    (results fn tmps).run Tryz.prog X = .ok (gv (.slice a1 n1 c1) (.slice a2 n2 c2) (.slice a3 n3 c3) x y) X:=by
 obtain⟨k0,k1,k2,k3,k4,_⟩:=ak hX;clear hX;simp[results,hf,h2,go_sem,k0,k1,k2,k3,k4]
theorem aH (Y:World) (b k:Nat) (u:Value):Ch [b] Y (Y.setCell ⟨b,k,none⟩ u):=⟨rfl,rfl,rfl,by simp,fun j _ hn=>Below.heap_setCell Y _ u j (fun e=>hn (by simp[e]))⟩
theorem eV {S:List Nat} {w w':World} {b:Nat} {t:TypeId} {c0 c1 c2 c3 c4:Value} (h:fh w b t c0 c1 c2 c3 c4) (hc:Ch S w w') (hb:b ∉ S):fh w' b t c0 c1 c2 c3 c4:=(hc.block b (lt_of_block h) hb).trans h
def ou (w:World) (o r m:Value) (k0 kE:Nat):Prop:=∃(ms:List MO) (nr nm:Nat),ms.length+slotsLen ms+nr+nm≤1048576∧qz w o (Lm k0 ms ms.length)∧cM w r (Cm (kAt k0 ms ms.length) nr)∧cM w m (Cm (kAt k0 ms ms.length+2*nr) nm)∧kE=kAt k0 ms ms.length+2*nr+2*nm
theorem eY {w w':World} {o r m:Value} {k0 kE:Nat} (h:ou w o r m k0 kE) (hb:Below w.heap.size w w'):ou w' o r m k0 kE:=by
 obtain⟨ms,nr,nm,h1,h2,h3,h4,h5⟩:=h;exact⟨ms,nr,nm,h1,jT h2 hb,aU h3 hb,aU h4 hb,h5⟩
theorem nk {o r m:Value} {ms:List MO} (h:(cj o r m ms).Nodup):(∀k ∈ blk o++gD ms,k ∉ blk r)∧(∀k ∈ blk o++gD ms,k ∉ blk m)∧∀k ∈ blk r,k ∉ blk m:=by
 unfold cj at h;rw[List.nodup_append,List.nodup_append]at h;obtain⟨⟨_,_,h1⟩,_,h2⟩:=h;exact⟨fun k hk e=>h1 k hk k e rfl,fun k hk e=>h2 k (List.mem_append.2 (.inl hk)) k e rfl,fun k hk e=>h2 k (List.mem_append.2 (.inr hk)) k e rfl⟩
theorem bq {w:World} {o r m:Value} {ms:List MO} {G:Gr} (h:gy w o r m ms G):∃a1 n1 c1 a2 n2 c2 a3 n3 c3,o = .slice a1 n1 c1∧r = .slice a2 n2 c2∧m = .slice a3 n3 c3:=by
 obtain⟨_,⟨⟨a1,c1,e1,_⟩,_⟩,hR,hM⟩:=h;obtain⟨a2,n2,c2,e2⟩:=cO hR;obtain⟨a3,n3,c3,e3⟩:=cO hM;exact⟨a1,_,c1,a2,n2,c2,a3,n3,c3,e1,e2,e3⟩
def atI (os:List Ob) (id:Int):Int:=match os.findIdx? (fun o=>o.id==id) with|some i=>(i:Int)|none => -1
theorem uK {os:List Ob} {id:Int} {k:Nat} (hk:k<os.length) (h:(os.getD k obD).id=id) (hn:∀m,m<k→¬(os.getD m obD).id=id):atI os id=k:=by
 unfold atI;have g:∀j,(hj:j<os.length)→os.getD j obD=os[j]:=fun j hj=>by rw[List.getD_eq_getElem?_getD,List.getElem?_eq_getElem hj];rfl
 have e:os.findIdx? (fun o=>o.id==id)=some k:=by
  rw[List.findIdx?_eq_some_iff_getElem];refine⟨hk,?_,fun j hj => ?_⟩
  ·rw[g k hk]at h;simpa using h
  ·have:=hn j hj
   rw[g j (by omega)]at this;simpa using this
 rw[e]
theorem Fh {os:List Ob} {id:Int} (hn:∀m,m<os.length→¬(os.getD m obD).id=id):atI os id = -1:=by
 unfold atI
 have e:os.findIdx? (fun o=>o.id==id)=none:=by
  rw[List.findIdx?_eq_none_iff];intro o ho;obtain⟨i,hi,rfl⟩:=List.getElem_of_mem ho;have:=hn i hi
  rw[List.getD_eq_getElem?_getD,List.getElem?_eq_getElem hi]at this;simpa using this
 rw[e]
theorem Fi (os:List Ob) (id:Int) : -1≤atI os id∧atI os id<os.length∨atI os id = -1:=by
 unfold atI;cases h:os.findIdx? (fun o=>o.id==id) with
 |none=>exact .inr rfl
 |some i=>
  have:=(List.findIdx?_eq_some_iff_getElem.1 h).1
  refine .inl ⟨?_,?_⟩
  ·simp
  ·simpa using this
def fH (os:List Ob) (r:Rf):Bool:=if r.1=0 then r.2==0 else if r.1=1 then inR (-100000) 100000 r.2 else r.1==2&&decide (0≤atI os r.2)
def jz (os:List Ob):Nat→Int
 |0=>0
 |i+1=>(os.getD i obD).id
def Bs (os:List Ob) (next:Int) (i:Nat):Bool:=decide (jz os i<(os.getD i obD).id)&&decide ((os.getD i obD).id<next)&&decide ((os.getD i obD).fmt≤2)&&hok ((os.getD i obD).slots.length:Int) (os.getD i obD).fmt (os.getD i obD).cls (os.getD i obD).hash false false
def GV (os:List Ob) (i:Nat):Bool:=(List.range (os.getD i obD).slots.length).all fun k=>fH os ((os.getD i obD).slots.getD k bU)
def oR (G:Gr):Bool:=decide (G.objs.length≤500)&&decide (G.roots.length=6)&&decide (G.a7.length≤40)&&inR 1 100000 G.next&&inR 0 65535 G.seed
def gOk (G:Gr):Bool:=oR G&&(List.range G.objs.length).all (fun i=>Bs G.objs G.next i&&GV G.objs i)&&(List.range 6).all (fun i=>fH G.objs (G.roots.getD i bU))&&(List.range G.a7.length).all (fun i=>(G.a7.getD i bU).1==2&&fH G.objs (G.a7.getD i bU))
theorem jg {w:World} {o r m:Value} {ms:List MO} {G:Gr} (h:gy w o r m ms G):ms.length=G.objs.length:=by rw[←h.1];simp
theorem fO {w:World} {o r m:Value} {ms:List MO} {G:Gr} (h:gy w o r m ms G) (i:Nat):(ms.getD i moD).abs=G.objs.getD i obD:=by rw[←h.1,fo]
set_option maxHeartbeats 2000000 in
theorem DK {w:World} {o r m:Value} {ms:List MO} {G:Gr} (h:gy w o r m ms G) (hl:ms.length≤1048576) (id:Int) :
    Calls Tryz.prog 94 #[gv o r m G.next G.seed,.int .i64 id] w fun e w'=>e = .returned (.int .i64 (atI G.objs id))∧w'=w.alloc (gb o r m G.next G.seed):=by
 have hlen:=jg h;have hget:=fO h;obtain⟨_,⟨⟨a,cap,rfl,hlc,hcm,_,hc⟩,_⟩,hR,hM⟩:=h;obtain⟨a2,n2,c2,e2⟩:=cO hR;obtain⟨a3,n3,c3,e3⟩:=cO hM;subst e2 e3;have hcb:cap≤9223372036854775807:=hcm;have B:Below w.heap.size w (w.alloc (gb (.slice a ms.length cap) (.slice a2 n2 c2) (.slice a3 n3 c3) G.next G.seed)):=(Below.refl _ w).alloc (Nat.le_refl _) _;have T:=fX w 50 (.slice a ms.length cap) (.slice a2 n2 c2) (.slice a3 n3 c3) (.int .i64 G.next) (.int .i64 G.seed);obtain⟨z0,_,_,_,_,_⟩:=ak T;obtain⟨RV,hRV⟩:∃RV,atI G.objs id=RV:=⟨_,rfl⟩
 rw[hRV];have HRV:Hid _:=hRV;have HC:Hid _:=hc;have HB:Hid _:=B;have HLEN:Hid _:=hlen;have HGET:Hid _:=hget;clear hc B T hR hM hRV hlen hget;go_enter Tryz.func94,Tryz.ntmps94;go_wp2_with fail;generalize hX:(w.alloc (gb (.slice a ms.length cap) (.slice a2 n2 c2) (.slice a3 n3 c3) G.next G.seed))=X at *;generalize hq:w.heap.size=q at *;have HX:Hid _:=hX;clear hX;go_loopw [5] (fun i wr=>∃k:Nat,k≤ms.length∧i = .int .i64 k∧(∀m,m<k→¬(G.objs.getD m obD).id=id)∧wr=X) (fun i _=>ms.length-(intOf i).toNat);case atStart=>exact⟨0,Nat.zero_le _,rfl,fun m hm=>by omega,rfl⟩
 case round=>
  obtain⟨k,hk,rfl,hne,hw⟩:=hrel;subst hw;have HNE:Hid _:=hne;clear hne;by_cases hlt:k<ms.length
  ·obtain⟨b,off,rfl,hb,hcc⟩:=HC.out (by omega);have c0:=(HB.out.cell (p:=⟨b,off+k*5,none⟩) hb).trans (hcc k hlt).1;have eid:(ms.getD k moD).id=(G.objs.getD k obD).id:=congrArg Ob.id (HGET.out k)
   have HN2:Hid (¬(ms.getD k moD).id=id→∀m,m<k+1→¬(G.objs.getD m obD).id=id):=fun e m hm=>by
    by_cases e':m=k
    ·rw[e',←eid];exact e
    ·exact HNE.out m (by omega)
   have HYES:Hid ((ms.getD k moD).id=id→RV=k):=fun e=>HRV.out.symm.trans (uK (by rw[←HLEN.out];exact hlt) (eid.symm.trans e) HNE.out)
   clear hcc HC HNE eid HGET HLEN HRV;generalize (ms.getD k moD).id=y at *;by_cases hy:y=id
   ·have HV:Hid _:=HYES.out hy;have hy':(y==id)=true:=by simpa using hy
    clear HYES HN2 hy;go_wp2;go_ret;exact⟨by rw[HV.out];rfl,HX.out.symm⟩
   ·have HV:Hid _:=HN2.out hy;have hy':(y==id)=false:=by simpa using hy
    clear HYES HN2;go_wp2;exact⟨⟨k+1,by omega,by go_num,HV,by trivial⟩,by simp[intOf];omega⟩
  ·have HV:Hid (RV = -1):=HRV.out.symm.trans (Fh (fun m hm=>HNE.out m (by rw[←HLEN.out]at hm;omega)));clear HC HNE HRV HGET HLEN;go_wp2;go_ret;exact⟨by rw[HV.out];rfl,HX.out.symm⟩
theorem Bt {G:Gr} (h0:oR G=true) (h1:∀i,i<G.objs.length→(Bs G.objs G.next i&&GV G.objs i)=true) (h2:∀i,i<6→fH G.objs (G.roots.getD i bU)=true) (h3:∀i,i<G.a7.length→((G.a7.getD i bU).1==2&&fH G.objs (G.a7.getD i bU))=true):gOk G=true:=by
 unfold gOk;rw[h0,List.all_eq_true.2 (fun i hi=>h1 i (List.mem_range.1 hi)),List.all_eq_true.2 (fun i hi=>h2 i (List.mem_range.1 hi)),List.all_eq_true.2 (fun i hi=>h3 i (List.mem_range.1 hi))];rfl
theorem DL {os:List Ob} {i:Nat} (h:∀k,k<(os.getD i obD).slots.length→fH os ((os.getD i obD).slots.getD k bU)=true):GV os i=true:=by
 unfold GV;rw[List.all_eq_true];exact fun k hk=>h k (List.mem_range.1 hk)
abbrev Hl (G:Gr) (x:Int):Rf:=G.roots.getD x.toNat bU
theorem Bu {os:List Ob} {r:Rf} (h:fH os r=true) (h2:r.1=2):0≤atI os r.2∧atI os r.2<os.length:=by
 unfold fH at h;rw[h2]at h;simp at h;rcases Fi os r.2 with ⟨_,h3⟩|h3
 ·exact⟨h,h3⟩
 ·omega
theorem xb {w:World} {base size n:Nat} {t:TypeId} {v:Value} {xs:List Value} (h:w.ownsRow base t size v n xs) {g n' c:Nat} (hv:v = .slice (some ⟨g,0,none⟩) n' c) (i:Nat) (u:Value):(w.setCell ⟨g,i,none⟩ u).ownsRow base t size v n (xs.set i u):=by
 obtain⟨h0,⟨h1,_⟩|⟨g',cap,cur,h1,hg,hh,hle,hm,hs,ht⟩⟩:=h
 ·rw[hv]at h1;cases h1
 ·rw[hv]at h1;injection h1 with e1 e2 e3
  injection e1 with e1
  injection e1 with e1
  subst e1 e2 e3;refine⟨by simpa using h0,.inr ⟨g,c,_,hv,hg,aq hh i u,hle,hm,by simpa using hs,?_⟩⟩
  rw[←ht];simp[List.take_set]
theorem zJ {w:World} {base size n:Nat} {t:TypeId} {xs:List Value} {q n' c:Nat} (h:w.ownsRow base t size (.slice (some ⟨q,0,none⟩) n' c) n xs) (i:Nat):w.frozen? ⟨q,i,none⟩=false:=by
 obtain⟨_,⟨h1,_⟩|⟨g',cap,cur,h1,hg,hh,hle,hm,hs,ht⟩⟩:=h
 ·cases h1
 ·injection h1 with e1 e2 e3
  injection e1 with e1
  injection e1 with e1
  subst e1;simp[World.frozen?, hh]
abbrev IL (X:World) (b k:Nat) (e:Rf):World:=(X.setCell ⟨b,k*2,none⟩ (.int .i64 e.1)).setCell ⟨b,k*2+1,none⟩ (.int .i64 e.2)
theorem xd (X:World) (b k:Nat) (e:Rf):Ch [b] X (IL X b k e):=(aH X b _ _).trans (aH _ b _ _)
theorem yE {w:World} {base:Nat} {es:List Rf} {q n c:Nat} (h:fJ w base (.slice (some ⟨q,0,none⟩) n c) es) (i:Nat) (e:Rf):fJ (IL w q i e) base (.slice (some ⟨q,0,none⟩) n c) (es.set i e):=by
 have h2:=xb (xb h rfl (i*2) (.int .i64 e.1)) rfl (i*2+1) (.int .i64 e.2);rw[sG]at h2;unfold fJ;rw[List.length_set];exact h2
theorem jh (q n c:Nat):blk (.slice (some ⟨q,0,none⟩) n c)=[q]:=rfl
theorem fl (v:Value):(blk v).Nodup:=by
 unfold blk;cases v.ownBlock<;>simp
theorem pU (ms:List MO) (m:MO):gD (ms++[m])=gD ms++blk m.sv:=by simp[gD]
theorem Fj {w:World} {base:Nat} {o m:Value} {q n c:Nat} {ms:List MO} {G:Gr} (h:ja w base o (.slice (some ⟨q,0,none⟩) n c) m ms G) (i:Nat) (e:Rf) :
    ja (IL w q i e) base o (.slice (some ⟨q,0,none⟩) n c) m ms { G with roots:=G.roots.set i e }:=by
 obtain⟨h1,h2,h3,h4,h5⟩:=h
 have hd:∀k,k=q→k ∉ blk o∧k ∉ gD ms∧k ∉ blk m:=by
  intro k hk;subst hk;simp only[cj,jh,List.nodup_append,List.mem_append,List.mem_singleton]at h5;refine⟨fun e => ?_,fun e => ?_,fun e => ?_⟩
  ·exact h5.1.2.2 k (.inl e) k rfl rfl
  ·exact h5.1.2.2 k (.inr e) k rfl rfl
  ·exact h5.2.2 k (.inr rfl) k e rfl
 refine⟨h1,qA h2 (xd w q i e) (fun k hk hq => ?_),yE h3 i e,aE h4 (xd w q i e) (fun k hk hq => ?_),h5⟩
 ·rw[List.mem_singleton]at hq;rcases List.mem_append.1 hk with hk|hk
  ·exact (hd k hq).1 hk
  ·exact (hd k hq).2.1 hk
 ·rw[List.mem_singleton]at hq;exact (hd k hq).2.2 hk
theorem pV:∀(ms:List MO) (k:Nat) (s:List Rf),cellsO (ms.set k { ms.getD k moD with slots:=s })=cellsO ms
 | [],_,_=>by simp[cellsO]
 |m :: ms,0,s=>by simp[cellsO]
 |m :: ms,k+1,s=>by
  have:=pV ms k s
  simpa [cellsO] using this
theorem pY:∀(ms:List MO) (k:Nat) (s:List Rf),gD (ms.set k { ms.getD k moD with slots:=s })=gD ms
 | [],_,_=>by simp[gD]
 |m :: ms,0,s=>by simp[gD]
 |m :: ms,k+1,s=>by
  have:=pY ms k s
  simpa [gD] using this
def xe (os:List Ob) (k j:Nat) (e:Rf):List Ob:=os.set k { os.getD k obD with slots:=(os.getD k obD).slots.set j e }
theorem Fk {w:World} {base:Nat} {o r m:Value} {ms:List MO} {G:Gr} (h:ja w base o r m ms G) {k:Nat} (hk:k<ms.length) {q n c:Nat} (hv:(ms.getD k moD).sv = .slice (some ⟨q,0,none⟩) n c) (j:Nat) (e:Rf) :
    ja (IL w q j e) base o r m (ms.set k { ms.getD k moD with slots:=(ms.getD k moD).slots.set j e }) { G with objs:=xe G.objs k j e }:=by
 obtain⟨h1,⟨h2,h2b,h2c⟩,h3,h4,h5⟩:=h;obtain⟨ap1,ap2⟩:=apart h2c
 have hq:q ∈ gD ms:=by
  simp only[gD,List.mem_flatMap];exact⟨_,cZ hk,by rw[hv];simp[jh]⟩
 have hd:∀x,x=q→x ∉ blk o∧x ∉ blk r∧x ∉ blk m:=by
  intro x hx;subst hx;simp only[cj,List.nodup_append,List.mem_append]at h5;refine⟨fun e => ?_,fun e => ?_,fun e => ?_⟩
  ·exact h5.1.1.2.2 x e x hq rfl
  ·exact h5.1.2.2 x (.inr hq) x e rfl
  ·exact h5.2.2 x (.inl (.inr hq)) x e rfl
 have CH:=xd w q j e;refine⟨?_,⟨?_,fun m' hm' => ?_,by rw[pY];exact h2c⟩,aE h3 CH (fun x hx hxq=>(hd x (List.mem_singleton.1 hxq)).2.1 hx),aE h4 CH (fun x hx hxq=>(hd x (List.mem_singleton.1 hxq)).2.2 hx),by unfold cj;rw[pY];exact h5⟩
 ·show _=xe G.objs k j e
  unfold xe;rw[←h1,List.map_set,fo];rfl
 ·unfold lp;rw[pV,List.length_set];exact aE h2 CH (fun x hx hxq=>(hd x (List.mem_singleton.1 hxq)).1 hx)
 ·obtain⟨i,hi,rfl⟩:=List.getElem_of_mem hm';rw[List.length_set]at hi;rw[List.getElem_set];split
  ·rename_i e1
   subst e1;have O:=h2b _ (cZ hk);show fJ _ _ (ms.getD k moD).sv _
   rw[hv]at O ⊢;exact yE O j e
  ·rename_i e1
   have hg:ms[i]=ms.getD i moD:=by rw[List.getD_eq_getElem?_getD,List.getElem?_eq_getElem hi];rfl
   rw[hg];refine aE (h2b _ (cZ hi)) CH (fun x hx hxq => ?_);refine ap2 i k hi hk (fun e=>e1 e.symm) x hx ?_;rw[hv,jh];exact hxq
theorem yF {w w':World} {base:Nat} {o o' r m:Value} {ms:List MO} {G:Gr} {m1:MO} (h:ja w base o r m ms G) (h1:fJ w base m1.sv m1.slots) (hd:∀k ∈ blk m1.sv,k ∉ cj o r m ms)
    (hrow:w'.ownsRow base 60 5 o' (ms.length+1) (cellsO ms++cellsO [m1])) (hg:w.grownBy w' o.ownBlock) (hb:o'.ownBlock=o.ownBlock∨o'.ownBlock=some w.heap.size) :
    ja w' base o' r m (ms++[m1]) { G with objs:=G.objs++[m1.abs] }∧Ch (blk o) w w'∧∀k ∈ cj o' r m (ms++[m1]),k ∈ cj o r m ms∨k ∈ blk m1.sv∨k=w.heap.size:=by
 have CH:Ch (blk o) w w':=cJ hg;have hlt:=dz h;have hlt1:=aM h1;obtain⟨e1,⟨h2,h2b,h2c⟩,h3,h4,h5⟩:=h
 have hbo:blk o'=blk o∨blk o'=[w.heap.size]:=by
  unfold blk;rcases hb with hb|hb
  ·exact .inl (by rw[hb])
  ·exact .inr (by rw[hb];rfl)
 have h5':=h5;simp only[cj,List.nodup_append,List.mem_append]at h5';obtain⟨⟨⟨n1,n2,d12⟩,n3,d123⟩,n4,d1234⟩:=h5'
 have ndO:(blk o'++(gD ms++blk m1.sv)).Nodup∧(cj o' r m (ms++[m1])).Nodup:=by
  have hm1:∀x ∈ blk m1.sv,x ∉ blk o∧x ∉ gD ms∧x ∉ blk r∧x ∉ blk m:=fun x hx=>by
   have:=hd x hx
   simp only[cj,List.mem_append,not_or]at this;exact⟨this.1.1.1,this.1.1.2,this.1.2,this.2⟩
  have lo:∀x,x ∈ blk o∨x ∈ gD ms∨x ∈ blk r∨x ∈ blk m→x<w.heap.size:=fun x hx=>(hlt x (by simp only[cj,List.mem_append];rcases hx with h|h|h|h<;>simp[h])).2
  have ho':∀x ∈ blk o',x ∉ gD ms∧x ∉ blk m1.sv∧x ∉ blk r∧x ∉ blk m:=by
   intro x hx;rcases hbo with hb'|hb'
   ·rw[hb']at hx;exact⟨fun e=>d12 x hx x e rfl,fun e=>(hm1 x e).1 hx,fun e=>d123 x (.inl hx) x e rfl,fun e=>d1234 x (.inl (.inl hx)) x e rfl⟩
   ·rw[hb',List.mem_singleton]at hx;subst hx;refine⟨fun e => ?_,fun e => ?_,fun e => ?_,fun e => ?_⟩
    ·have:=lo _ (.inr (.inl e));omega
    ·have:=(hlt1 _ e).2;omega
    ·have:=lo _ (.inr (.inr (.inl e)));omega
    ·have:=lo _ (.inr (.inr (.inr e)));omega
  have a1:(gD ms++blk m1.sv).Nodup:=by
   rw[List.nodup_append];exact⟨n2,fl _,fun a ha b hb e=>(hm1 b hb).2.1 (e▸ha)⟩
  have a2:(blk o'++(gD ms++blk m1.sv)).Nodup:=by
   rw[List.nodup_append];refine⟨fl _,a1,fun a ha b hb e => ?_⟩
   subst e;rcases List.mem_append.1 hb with hb|hb
   ·exact (ho' a ha).1 hb
   ·exact (ho' a ha).2.1 hb
  refine⟨a2,?_⟩
  unfold cj;rw[pU,List.nodup_append,List.nodup_append];refine⟨⟨a2,n3,fun a ha b hb e => ?_⟩,n4,fun a ha b hb e => ?_⟩
  ·subst e;rcases List.mem_append.1 ha with ha|ha
   ·exact (ho' a ha).2.2.1 hb
   ·rcases List.mem_append.1 ha with ha|ha
    ·exact d123 a (.inr ha) a hb rfl
    ·exact (hm1 a ha).2.2.1 hb
  ·subst e;rcases List.mem_append.1 ha with ha|ha
   ·rcases List.mem_append.1 ha with ha|ha
    ·exact (ho' a ha).2.2.2 hb
    ·rcases List.mem_append.1 ha with ha|ha
     ·exact d1234 a (.inl (.inr ha)) a hb rfl
     ·exact (hm1 a ha).2.2.2 hb
   ·exact d1234 a (.inr ha) a hb rfl
 have hS:∀x,x ∈ gD ms∨x ∈ blk m1.sv∨x ∈ blk r∨x ∈ blk m→x ∉ blk o:=by
  intro x hx e;rcases hx with hx|hx|hx|hx
  ·exact d12 x e x hx rfl
  ·exact hd x hx (by simp only[cj,List.mem_append];exact .inl (.inl (.inl e)))
  ·exact d123 x (.inl e) x hx rfl
  ·exact d1234 x (.inl (.inl e)) x hx rfl
 refine⟨⟨?_,⟨?_,fun m' hm' => ?_,by rw[pU];exact ndO.1⟩,aE h3 CH (fun x hx=>hS x (.inr (.inr (.inl hx)))),aE h4 CH (fun x hx=>hS x (.inr (.inr (.inr hx)))),ndO.2⟩,CH,fun k hk => ?_⟩
 ·show _=G.objs++[m1.abs]
  rw[List.map_append,e1];rfl
 ·unfold lp;rw[mq,List.length_append];exact hrow
 ·rcases List.mem_append.1 hm' with hm'|hm'
  ·refine aE (h2b _ hm') CH (fun x hx=>hS x (.inl ?_));simp only[gD,List.mem_flatMap];exact⟨m',hm',hx⟩
  ·rw[List.mem_singleton]at hm';subst hm';exact aE h1 CH (fun x hx=>hS x (.inr (.inl hx)))
 ·simp only[cj,pU,List.mem_append]at hk ⊢;rcases hk with ((hk|hk|hk)|hk)|hk
  ·rcases hbo with hb'|hb'
   ·rw[hb']at hk;exact .inl (.inl (.inl (.inl hk)))
   ·rw[hb',List.mem_singleton]at hk;exact .inr (.inr hk)
  ·exact .inl (.inl (.inl (.inr hk)))
  ·exact .inr (.inl hk)
  ·exact .inl (.inl (.inr hk))
  ·exact .inl (.inr hk)
def kZ (w:World) (base P:Nat) (G:Gr):Prop:=∃o r m ms,fh w P 50 o r m (.int .i64 G.next) (.int .i64 G.seed)∧ja w base o r m ms G∧P ∉ cj o r m ms∧base≤P
theorem eZ {w w':World} {base P:Nat} {G:Gr} (h:kZ w base P G) (hb:Below w.heap.size w w'):kZ w' base P G:=by
 obtain⟨o,r,m,ms,h1,h2,h3,h4⟩:=h;exact⟨o,r,m,ms,aJ h1 hb,cI h2 hb,h3,h4⟩
def plc (G:Gr) (x:Int):Nat:=(atI G.objs (Hl G x).2).toNat
def drawn (s:Int):Int:=(25173*s+13849) % 65536
end Go.Proofs.YtocidankimefpaaGreatDoor.gr
namespace Go.Proofs.YtocidankimefpaaGreatDoor.heads
open Go.RowKit
def fok (s f c g:Int) (p m:Bool):Bool:=decide (f≤2)&&hok s f c g p m
end Go.Proofs.YtocidankimefpaaGreatDoor.heads
namespace Go.Proofs.YtocidankimefpaaGreatDoor.gr
open Go.RowKit rows heads
def zK (os:List Ob):Prop:=∀i j,i<j→j<os.length→(os.getD i obD).id<(os.getD j obD).id
def Ends (os:List Ob) (id:Int) (i:Nat):Prop:=i≤os.length∧(∀t,t<i→(os.getD t obD).id<id)∧∀t,i≤t→t<os.length→id≤(os.getD t obD).id
theorem Bv {os:List Ob} {id:Int} {i:Nat} (hr:zK os) (h:Ends os id i) (hn:¬(i<os.length∧(os.getD i obD).id=id)):atI os id = -1:=by
 refine Fh fun m hm e => ?_
 rcases Nat.lt_trichotomy m i with h1|h1|h1
 ·have:=h.2.1 m h1;omega
 ·subst h1;exact hn ⟨hm,e⟩
 ·have h2:=h.2.2 i (Nat.le_refl _) (by omega);have h3:=hr i m h1 hm;omega
theorem yG {os:List Ob} {id:Int} {i:Nat} (h:Ends os id i) (hy:i<os.length∧(os.getD i obD).id=id):atI os id=i:=
 uK hy.1 hy.2 fun m hm e=>by have:=h.2.1 m hm;omega
theorem FL {os:List Ob} {id:Int} {i:Nat} (hr:zK os) (h:Ends os id i):(decide (i<os.length)&&decide ((os.getD i obD).id=id))=decide (0≤atI os id):=by
 by_cases hy:i<os.length∧(os.getD i obD).id=id
 ·rw[yG h hy,decide_eq_true hy.1,decide_eq_true hy.2];simp
 ·rw[Bv hr h hy];rw[Bool.eq_iff_iff];simp only[Bool.and_eq_true,decide_eq_true_eq];exact⟨fun e=>absurd e hy,fun e=>by omega⟩
theorem zL {os:List Ob} {id:Int} {i:Nat} (hr:zK os) (h:Ends os id i) (hp:0≤atI os id):atI os id=i∧i<os.length:=by
 by_cases hy:i<os.length∧(os.getD i obD).id=id
 ·exact⟨yG h hy,hy.1⟩
 ·have:=Bv hr h hy
  omega
def IP (os:List Ob) (next:Int):Bool:=(List.range os.length).all fun i=>decide (jz os i<(os.getD i obD).id)&&decide ((os.getD i obD).id<next)
def J3 (os:List Ob) (i:Nat):Bool:=fok ((os.getD i obD).slots.length:Int) (os.getD i obD).fmt (os.getD i obD).cls (os.getD i obD).hash false false&&GV os i
def FM (os:List Ob):Bool:=(List.range os.length).all (J3 os)
def DM (os:List Ob) (l:List Rf):Bool:=(List.range l.length).all fun i=>fH os (l.getD i bU)
def FN (l:List Rf):Bool:=(List.range l.length).all fun i=>(l.getD i bU).1==2
def Bz (G:Gr):Bool:=decide (G.roots.length=6)&&decide (G.a7.length≤40)&&(FN G.a7&&(DM G.objs G.roots&&DM G.objs G.a7))
def pG (G:Gr):Bool:=(inR 1 100000 G.next&&inR 0 65535 G.seed&&decide (G.objs.length≤500))&&(IP G.objs G.next&&(FM G.objs&&Bz G))
theorem gh {n:Nat} {p:Nat→Bool} (h:∀i,i<n→p i=true):(List.range n).all p=true:=by
 rw[List.all_eq_true];intro i hi;exact h i (List.mem_range.1 hi)
theorem dB {n:Nat} {p:Nat→Bool} (h:(List.range n).all p=true) {i:Nat} (hi:i<n):p i=true:=List.all_eq_true.1 h i (List.mem_range.2 hi)
theorem FQ {os:List Ob} {next:Int} (h:IP os next=true):zK os:=by
 have h1:∀i,i<os.length→jz os i<(os.getD i obD).id:=fun i hi=>by
  have:=dB h hi
  simp only[Bool.and_eq_true,decide_eq_true_eq]at this;exact this.1
 intro i j hij hj;induction j with
 |zero=>omega
 |succ j ih=>
  have h2:=h1 (j+1) hj;rcases Nat.lt_or_ge i j with h3|h3
  ·have:=ih h3 (by omega)
   have h4:jz os (j+1)=(os.getD j obD).id:=rfl;omega
  ·have e:i=j:=by omega
   subst e;exact h2
theorem Hm (G:Gr):pG G=gOk G:=by
 rw[Bool.eq_iff_iff];constructor
 ·intro h;simp only[pG,Bz,IP,FM,DM,FN,Bool.and_eq_true,decide_eq_true_eq]at h;obtain⟨⟨⟨a1,a2⟩,a3⟩,b1,b2,⟨c1,c2⟩,c3,c4,c5⟩:=h;refine Bt ?_ (fun i hi => ?_) (fun i hi => ?_) (fun i hi => ?_)
  ·simp only[oR,Bool.and_eq_true,decide_eq_true_eq];exact⟨⟨⟨⟨a3,c1⟩,c2⟩,a1⟩,a2⟩
  ·have d1:=dB b1 hi;have d2:=dB b2 hi;simp only[J3,fok,Bool.and_eq_true,decide_eq_true_eq]at d1 d2;simp only[Bs,Bool.and_eq_true,decide_eq_true_eq];exact⟨⟨⟨⟨d1.1,d1.2⟩,d2.1.1⟩,d2.1.2⟩,d2.2⟩
  ·exact dB c4 (by omega)
  ·rw[Bool.and_eq_true];exact⟨dB c3 hi,dB c5 hi⟩
 ·intro h;simp only[gOk,oR,Bool.and_eq_true,decide_eq_true_eq]at h;obtain⟨⟨⟨⟨⟨⟨⟨a1,a2⟩,a3⟩,a4⟩,a5⟩,b⟩,c⟩,d⟩:=h;simp only[pG,Bz,IP,FM,DM,FN,Bool.and_eq_true,decide_eq_true_eq]
  have hb:∀i,i<G.objs.length→_:=fun i hi=>by
   have:=dB b hi
   simp only[Bs,Bool.and_eq_true,decide_eq_true_eq]at this;exact this
  have hd:∀i,i<G.a7.length→_:=fun i hi=>by
   have:=dB d hi
   rw[Bool.and_eq_true]at this;exact this
  refine⟨⟨⟨a4,a5⟩,a1⟩,gh fun i hi => ?_,gh fun i hi => ?_,⟨a2,a3⟩,gh fun i hi=>(hd i hi).1,gh fun i hi=>dB c (by omega),gh fun i hi=>(hd i hi).2⟩
  ·rw[Bool.and_eq_true,decide_eq_true_eq,decide_eq_true_eq];exact⟨(hb i hi).1.1.1.1,(hb i hi).1.1.1.2⟩
  ·simp only[J3,fok,Bool.and_eq_true,decide_eq_true_eq];exact⟨⟨(hb i hi).1.1.2,(hb i hi).1.2⟩,(hb i hi).2⟩
theorem fY {G:Gr} (h:gOk G=true):zK G.objs:=by
 rw[←Hm]at h;simp only[pG,Bool.and_eq_true]at h;exact FQ h.2.1
end Go.Proofs.YtocidankimefpaaGreatDoor.gr
