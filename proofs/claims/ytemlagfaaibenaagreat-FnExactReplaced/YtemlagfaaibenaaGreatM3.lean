/-
  Packed, of the program and of the specification. SizeOf, of the program and of the specification. Heads in memory: a block that holds one; what is read and stored of it. The functions of chapter 1 once more, each by one contract for every argument. Chapter 5 as lists: which lists are right, a name c
-/
import Derived.Test.YtemlagfaaibenaaGreatHeadOk
import Derived.Test.YtemlagfaaibenaaGreatWordOk
import Derived.Test.YtemlagfaaibenaaGreatM2
namespace Go.Proofs.YtemlagfaaibenaaGreat.heads
open Go.RowKit
def pk (s f c h:Int) (p m:Bool):Int:=s+f*64+c*512+h*65536+(if p then 4294967296 else 0)+(if m then 8589934592 else 0)
def pkd (s f c h:Int) (p m:Bool):Int:=if hok s f c h p m=true then pk s f c h p m else -1
theorem packed_any (s f c h:Int) (p m:Bool) (w:World) :
    Calls Tryz.prog 80 #[hv s f c h p m] w fun e w'=>e = .returned (.int .i64 (pkd s f c h p m))∧w'=(w.alloc (hb s f c h p m)).alloc (hb s f c h p m):=by
 cases hk:hok s f c h p m
 ·go_enter Tryz.func80,Tryz.ntmps80
  go_wp2_with (go_at_call 110;refine (headOk_any _ _ _ _ _ _ _).mono ?_;rintro e w' ⟨rfl,rfl⟩)
  go_ret
  exact⟨by simp[pkd,hk],rfl⟩
 ·obtain⟨b1,b2,b3,b4,b5,b6,b7,b8⟩:=hok_true hk
  cases p<;>cases m
  all_goals
   go_enter Tryz.func80,Tryz.ntmps80
   go_wp2_with (go_at_call 110;refine (headOk_any _ _ _ _ _ _ _).mono ?_;rintro e w' ⟨rfl,rfl⟩)
   go_ret
   exact⟨by simp[pkd,pk,hk],rfl⟩
theorem l2Packed_ok (s f c h:Int) (p m:Bool) (w:World) (hk:hok s f c h p m=true) :
    Calls Tryz.prog 92 #[hv s f c h p m] w fun e w'=>e = .returned (.int .i64 (pk s f c h p m))∧w'=w.alloc (hb s f c h p m):=by
 obtain⟨b1,b2,b3,b4,b5,b6,b7,b8⟩:=hok_true hk
 clear hk
 cases p<;>cases m
 all_goals
  go_enter Tryz.func92,Tryz.ntmps92
  go_wp2
  go_ret
  exact⟨by simp[pk];omega,rfl⟩
def sz (n:Int):Int:=if inR 0 20 n=true then n+1+(n+1) % 2 else 0
theorem sizeOf_any (n:Int) (w:World) :
    Calls Tryz.prog 153 #[.int .i64 n] w fun e w'=>e = .returned (.int .i64 (sz n))∧w'=w:=by
 have ev:∀(k:Int) (w:World),0≤k→k≤100→Calls Tryz.prog 159 #[.int .i64 k] w fun e w'=>e = .returned (.int .i64 (k+k % 2))∧w'=w:=by
  intro k w k0 k1
  go_enter Tryz.func159,Tryz.ntmps159
  go_wp2
  go_ret
  exact⟨rfl,rfl⟩
 cases i:inR 0 20 n
 ·go_enter Tryz.func153,Tryz.ntmps153
  go_wp2_with (go_at_call 132;refine (slotsInRange_any _ _).mono ?_;rintro e w' ⟨rfl,rfl⟩)
  go_ret
  exact⟨by simp[sz,i],rfl⟩
 ·obtain⟨b1,b2⟩:=inR_true i
  go_enter Tryz.func153,Tryz.ntmps153
  go_wp2_with (first|(go_at_call 132;refine (slotsInRange_any _ _).mono ?_;rintro e w' ⟨rfl,rfl⟩)|(go_at_call 159;refine (ev _ _ (by omega) (by omega)).mono ?_;rintro e w' ⟨rfl,rfl⟩))
  go_ret
  exact⟨by simp[sz,i],rfl⟩
def HeadAt (w:World) (b:Nat) (s f c h:Int) (p m:Bool):Prop:=w.heap[b]? = some (.cells #[.int .i64 s,.int .i64 f,.int .i64 c,.int .i64 h,.bool p,.bool m] 39 (0,0))
theorem headAt_cells {w:World} {b:Nat} {s f c h:Int} {p m:Bool} (hh:HeadAt w b s f c h p m) :
    w.cell? ⟨b,0,none⟩=some (.int .i64 s)∧w.cell? ⟨b,1,none⟩=some (.int .i64 f)∧w.cell? ⟨b,2,none⟩=some (.int .i64 c)∧w.cell? ⟨b,3,none⟩=some (.int .i64 h)∧w.cell? ⟨b,4,none⟩=some (.bool p)∧w.cell? ⟨b,5,none⟩=some (.bool m)∧∀k,w.frozen? ⟨b,k,none⟩=false:=by
 unfold HeadAt at hh
 refine⟨?_,?_,?_,?_,?_,?_,fun k => ?_⟩
 all_goals simp[World.cell?, World.frozen?, hh]
theorem cells_setCell {w:World} {b:Nat} {c:Array Value} {t:TypeId} (h:w.heap[b]? = some (.cells c t (0,0))) (k:Nat) (u:Value) :
    (w.setCell ⟨b,k,none⟩ u).heap[b]? = some (.cells (c.setIfInBounds k u) t (0,0)):=by
 have hlt:=lt_of_block h
 have h':w.heap[b] = .cells c t (0,0):=by simpa [Array.getElem?_eq_getElem hlt] using h
 show (w.heap.modify b _)[b]? = _
 rw[Array.getElem?_eq_getElem (by simpa using hlt),Array.getElem_modify_self,h']
 rfl
theorem headAt_alloc {w:World} {b:Nat} {s f c h:Int} {p m:Bool} (hh:HeadAt w b s f c h p m) (o:Obj):HeadAt (w.alloc o) b s f c h p m:=(Below.heap_alloc w o b (lt_of_block hh)).trans hh
theorem headAt_new (w:World) (s f c h:Int) (p m:Bool):HeadAt (w.alloc (hb s f c h p m)) w.heap.size s f c h p m:=heap_alloc_new w _
theorem headAt_set0 {w:World} {b:Nat} {s f c h:Int} {p m:Bool} (hh:HeadAt w b s f c h p m) (x:Int):HeadAt (w.setCell ⟨b,0,none⟩ (.int .i64 x)) b x f c h p m:=(cells_setCell hh 0 _).trans rfl
theorem headAt_set1 {w:World} {b:Nat} {s f c h:Int} {p m:Bool} (hh:HeadAt w b s f c h p m) (x:Int):HeadAt (w.setCell ⟨b,1,none⟩ (.int .i64 x)) b s x c h p m:=(cells_setCell hh 1 _).trans rfl
theorem headAt_set2 {w:World} {b:Nat} {s f c h:Int} {p m:Bool} (hh:HeadAt w b s f c h p m) (x:Int):HeadAt (w.setCell ⟨b,2,none⟩ (.int .i64 x)) b s f x h p m:=(cells_setCell hh 2 _).trans rfl
theorem headAt_set3 {w:World} {b:Nat} {s f c h:Int} {p m:Bool} (hh:HeadAt w b s f c h p m) (x:Int):HeadAt (w.setCell ⟨b,3,none⟩ (.int .i64 x)) b s f c x p m:=(cells_setCell hh 3 _).trans rfl
theorem headAt_set4 {w:World} {b:Nat} {s f c h:Int} {p m:Bool} (hh:HeadAt w b s f c h p m) (x:Bool):HeadAt (w.setCell ⟨b,4,none⟩ (.bool x)) b s f c h x m:=(cells_setCell hh 4 _).trans rfl
theorem headAt_set5 {w:World} {b:Nat} {s f c h:Int} {p m:Bool} (hh:HeadAt w b s f c h p m) (x:Bool):HeadAt (w.setCell ⟨b,5,none⟩ (.bool x)) b s f c h p x:=(cells_setCell hh 5 _).trans rfl
theorem res_head_at {fn:Func} {tmps:Array Value} {X:World} {j b:Nat} {s f c h:Int} {p m:Bool} (hf:fn.results=#[.cell j 39]) (h2:tmps[j]? = some (.pointer (some ⟨b,0,none⟩))) (hX:HeadAt X b s f c h p m) :
    (results fn tmps).run Tryz.prog X = .ok (hv s f c h p m) X:=by
 obtain⟨k0,k1,k2,k3,k4,k5,_⟩:=headAt_cells hX
 clear hX
 simp[results,hf,h2,go_sem,k0,k1,k2,k3,k4,k5]
theorem headAt_below {w w':World} {b:Nat} {s f c h:Int} {p m:Bool} (T:HeadAt w b s f c h p m) (hb:Below w.heap.size w w'):HeadAt w' b s f c h p m:=(hb.block b (lt_of_block T)).trans T
theorem six_set {X:World} {b:Nat} {s' f' c' h':Int} {p' m':Bool} (T:HeadAt X b s' f' c' h' p' m') (s f c h:Int) (p m:Bool) :
    HeadAt ((((((X.setCell ⟨b,0,none⟩ (.int .i64 s)).setCell ⟨b,1,none⟩ (.int .i64 f)).setCell ⟨b,2,none⟩ (.int .i64 c)).setCell ⟨b,3,none⟩ (.int .i64 h)).setCell ⟨b,4,none⟩ (.bool p)).setCell ⟨b,5,none⟩ (.bool m)) b s f c h p m:=
 headAt_set5 (headAt_set4 (headAt_set3 (headAt_set2 (headAt_set1 (headAt_set0 T _) _) _) _) _) _
theorem six_below {n:Nat} {w X:World} {b:Nat} (hB:Below n w X) (hb:n≤b) (s f c h:Int) (p m:Bool):Below n w ((((((X.setCell ⟨b,0,none⟩ (.int .i64 s)).setCell ⟨b,1,none⟩ (.int .i64 f)).setCell ⟨b,2,none⟩ (.int .i64 c)).setCell ⟨b,3,none⟩ (.int .i64 h)).setCell ⟨b,4,none⟩ (.bool p)).setCell ⟨b,5,none⟩ (.bool m)):=
 (((((hB.setCell (p:=⟨b,0,none⟩) hb _).setCell (p:=⟨b,1,none⟩) hb _).setCell (p:=⟨b,2,none⟩) hb _).setCell (p:=⟨b,3,none⟩) hb _).setCell (p:=⟨b,4,none⟩) hb _).setCell (p:=⟨b,5,none⟩) hb _
end Go.Proofs.YtemlagfaaibenaaGreat.heads
namespace Go.Proofs.YtemlagfaaibenaaGreat.words
open Go.RowKit
def iv (n:Int):Int:=if isI n then n / 4 else 0
def av (n:Int):Int:=if isA n then n / 4-1 else 0
def oa (a:Int):Int:=if 0≤a∧a≤999 then (a+1)*4 else 2
theorem addrOf_any (n:Int) (w:World) (b1 : -9223372036854775808≤n) (b2:n≤9223372036854775807) :
    Calls Tryz.prog 122 #[.int .i64 n] w fun e w'=>e = .returned (.tuple #[.int .i64 (av n),.bool (isA n)])∧w'=w:=by
 cases hi:isA n
 ·have e:av n=0:=by simp[av,hi]
  rw[e];exact addrOf_no n w b1 b2 hi
 ·have e:av n=n / 4-1:=by simp[av,hi]
  rw[e];exact addrOf_yes n w b1 b2 hi
theorem sAddrOf_any (n:Int) (w:World) :
    Calls Tryz.prog 44 #[.int .i64 n] w fun e w'=>e = .returned (.tuple #[.int .i64 (av n),.bool (isA n)])∧w'=w:=by
 cases hi:isA n
 ·have e:av n=0:=by simp[av,hi]
  rw[e];exact sAddrOf_no n w hi
 ·have e:av n=n / 4-1:=by simp[av,hi]
  rw[e];exact sAddrOf_yes n w hi
theorem ofAddr_any (n:Int) (w:World) :
    Calls Tryz.prog 73 #[.int .i64 n] w fun e w'=>e = .returned (.int .i64 (oa n))∧w'=w:=by
 by_cases h:0≤n∧n≤999
 ·rw[show oa n=(n+1)*4 from if_pos h];exact ofAddr_yes n h.1 h.2 w
 ·rw[show oa n=2 from if_neg h];exact ofAddr_no n (by omega) w
theorem isA_oa_yes {n:Int} (h1:0≤n) (h2:n≤999):isA (oa n)=true∧av (oa n)=n:=by
 have e:oa n=(n+1)*4:=if_pos ⟨h1,h2⟩
 have hi:isA ((n+1)*4)=true:=by simp[isA];omega
 rw[e]
 exact⟨hi,by rw[show av ((n+1)*4)=(n+1)*4 / 4-1 from if_pos hi];omega⟩
end Go.Proofs.YtemlagfaaibenaaGreat.words
namespace Go.Proofs.YtemlagfaaibenaaGreat.ents
open Go.RowKit rows heads
end Go.Proofs.YtemlagfaaibenaaGreat.ents
namespace Go.Proofs.YtemlagfaaibenaaGreat.heads
open Go.RowKit
set_option maxRecDepth 100000
abbrev cv (s f c h:Int) (p m:Bool) (u:Value):Value:=.agg #[.int .i64 s,.int .i64 f,.int .i64 c,.int .i64 h,.bool p,.bool m,u]
abbrev cb (s f c h:Int) (p m:Bool) (u:Value):Obj:=.cells #[.int .i64 s,.int .i64 f,.int .i64 c,.int .i64 h,.bool p,.bool m,u] 44
def ChAt (w:World) (b:Nat) (s f c h:Int) (p m:Bool) (u:Value):Prop:=w.heap[b]? = some (.cells #[.int .i64 s,.int .i64 f,.int .i64 c,.int .i64 h,.bool p,.bool m,u] 44 (0,0))
theorem chAt_cells {w:World} {b:Nat} {s f c h:Int} {p m:Bool} {u:Value} (hh:ChAt w b s f c h p m u) :
    w.cell? ⟨b,0,none⟩=some (.int .i64 s)∧w.cell? ⟨b,1,none⟩=some (.int .i64 f)∧w.cell? ⟨b,2,none⟩=some (.int .i64 c)∧w.cell? ⟨b,3,none⟩=some (.int .i64 h)∧w.cell? ⟨b,4,none⟩=some (.bool p)∧w.cell? ⟨b,5,none⟩=some (.bool m)∧w.cell? ⟨b,6,none⟩=some u∧∀k,w.frozen? ⟨b,k,none⟩=false:=by
 unfold ChAt at hh
 refine⟨?_,?_,?_,?_,?_,?_,?_,fun k => ?_⟩
 all_goals simp[World.cell?, World.frozen?, hh]
theorem chAt_new (w:World) (s f c h:Int) (p m:Bool) (u:Value):ChAt (w.alloc (cb s f c h p m u)) w.heap.size s f c h p m u:=heap_alloc_new w _
theorem chAt_alloc {w:World} {b:Nat} {s f c h:Int} {p m:Bool} {u:Value} (hh:ChAt w b s f c h p m u) (o:Obj):ChAt (w.alloc o) b s f c h p m u:=(Below.heap_alloc w o b (lt_of_block hh)).trans hh
theorem chAt_below {w w':World} {b:Nat} {s f c h:Int} {p m:Bool} {u:Value} (T:ChAt w b s f c h p m u) (hb:Below w.heap.size w w'):ChAt w' b s f c h p m u:=(hb.block b (lt_of_block T)).trans T
theorem chAt_set0 {w:World} {b:Nat} {s f c h:Int} {p m:Bool} {u:Value} (hh:ChAt w b s f c h p m u) (x:Int):ChAt (w.setCell ⟨b,0,none⟩ (.int .i64 x)) b x f c h p m u:=(cells_setCell hh 0 _).trans rfl
theorem chAt_set1 {w:World} {b:Nat} {s f c h:Int} {p m:Bool} {u:Value} (hh:ChAt w b s f c h p m u) (x:Int):ChAt (w.setCell ⟨b,1,none⟩ (.int .i64 x)) b s x c h p m u:=(cells_setCell hh 1 _).trans rfl
theorem chAt_set2 {w:World} {b:Nat} {s f c h:Int} {p m:Bool} {u:Value} (hh:ChAt w b s f c h p m u) (x:Int):ChAt (w.setCell ⟨b,2,none⟩ (.int .i64 x)) b s f x h p m u:=(cells_setCell hh 2 _).trans rfl
theorem chAt_set3 {w:World} {b:Nat} {s f c h:Int} {p m:Bool} {u:Value} (hh:ChAt w b s f c h p m u) (x:Int):ChAt (w.setCell ⟨b,3,none⟩ (.int .i64 x)) b s f c x p m u:=(cells_setCell hh 3 _).trans rfl
theorem chAt_set4 {w:World} {b:Nat} {s f c h:Int} {p m:Bool} {u:Value} (hh:ChAt w b s f c h p m u) (x:Bool):ChAt (w.setCell ⟨b,4,none⟩ (.bool x)) b s f c h x m u:=(cells_setCell hh 4 _).trans rfl
theorem chAt_set5 {w:World} {b:Nat} {s f c h:Int} {p m:Bool} {u:Value} (hh:ChAt w b s f c h p m u) (x:Bool):ChAt (w.setCell ⟨b,5,none⟩ (.bool x)) b s f c h p x u:=(cells_setCell hh 5 _).trans rfl
theorem chAt_set6 {w:World} {b:Nat} {s f c h:Int} {p m:Bool} {u:Value} (hh:ChAt w b s f c h p m u) (x:Value):ChAt (w.setCell ⟨b,6,none⟩ x) b s f c h p m x:=(cells_setCell hh 6 _).trans rfl
theorem seven_set {X:World} {b:Nat} {s' f' c' h':Int} {p' m':Bool} {u':Value} (T:ChAt X b s' f' c' h' p' m' u') (s f c h:Int) (p m:Bool) (u:Value) :
    ChAt (((((((X.setCell ⟨b,0,none⟩ (.int .i64 s)).setCell ⟨b,1,none⟩ (.int .i64 f)).setCell ⟨b,2,none⟩ (.int .i64 c)).setCell ⟨b,3,none⟩ (.int .i64 h)).setCell ⟨b,4,none⟩ (.bool p)).setCell ⟨b,5,none⟩ (.bool m)).setCell ⟨b,6,none⟩ u) b s f c h p m u:=
 chAt_set6 (chAt_set5 (chAt_set4 (chAt_set3 (chAt_set2 (chAt_set1 (chAt_set0 T _) _) _) _) _) _) _
theorem seven_below {n:Nat} {w X:World} {b:Nat} (hB:Below n w X) (hb:n≤b) (s f c h:Int) (p m:Bool) (u:Value):Below n w (((((((X.setCell ⟨b,0,none⟩ (.int .i64 s)).setCell ⟨b,1,none⟩ (.int .i64 f)).setCell ⟨b,2,none⟩ (.int .i64 c)).setCell ⟨b,3,none⟩ (.int .i64 h)).setCell ⟨b,4,none⟩ (.bool p)).setCell ⟨b,5,none⟩ (.bool m)).setCell ⟨b,6,none⟩ u):=
 (six_below hB hb s f c h p m).setCell (p:=⟨b,6,none⟩) hb _
theorem res_chunk_one {fn:Func} {tmps:Array Value} {X:World} {j k b:Nat} {s f c h:Int} {p m:Bool} {u v:Value} (hf:fn.results=#[.cell j 44,.tmp k]) (h2:tmps[j]? = some (.pointer (some ⟨b,0,none⟩))) (hk:tmps[k]? = some v) (hX:ChAt X b s f c h p m u) :
    (results fn tmps).run Tryz.prog X = .ok (.tuple #[cv s f c h p m u,v]) X:=by
 obtain⟨k0,k1,k2,k3,k4,k5,k6,_⟩:=chAt_cells hX
 clear hX
 simp[results,hf,h2,hk,go_sem,k0,k1,k2,k3,k4,k5,k6]
theorem res_head_one {fn:Func} {tmps:Array Value} {X:World} {j k b:Nat} {s f c h:Int} {p m:Bool} {v:Value} (hf:fn.results=#[.cell j 39,.tmp k]) (h2:tmps[j]? = some (.pointer (some ⟨b,0,none⟩))) (hk:tmps[k]? = some v) (hX:HeadAt X b s f c h p m) :
    (results fn tmps).run Tryz.prog X = .ok (.tuple #[hv s f c h p m,v]) X:=by
 obtain⟨k0,k1,k2,k3,k4,k5,_⟩:=headAt_cells hX
 clear hX
 simp[results,hf,h2,hk,go_sem,k0,k1,k2,k3,k4,k5]
theorem size_any (s f c h:Int) (p m:Bool) (a:Option Addr) (len cap:Nat) (w:World) :
    Calls Tryz.prog 69 #[cv s f c h p m (.slice a len cap)] w fun e w'=>e = .returned (.int .i64 len)∧w'=w.alloc (cb s f c h p m (.slice a len cap)):=by
 go_enter Tryz.func69,Tryz.ntmps69
 go_wp2
 go_ret
 exact⟨rfl,rfl⟩
theorem isNote_any (s f c h:Int) (p m:Bool) (u:Value) (w:World) :
    Calls Tryz.prog 62 #[cv s f c h p m u] w fun e w'=>e = .returned (.bool (f==7))∧w'=w.alloc (cb s f c h p m u):=by
 go_enter Tryz.func62,Tryz.ntmps62
 go_wp2
 go_ret
 exact⟨rfl,rfl⟩
end Go.Proofs.YtemlagfaaibenaaGreat.heads
