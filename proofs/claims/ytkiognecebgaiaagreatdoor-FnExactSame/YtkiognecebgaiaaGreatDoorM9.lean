/-
  What the program's ObjectAt answers where there is no object; the words of a chunk. Chapter 8 as the program has it: a free chunk written into a row. Chapter 8 as the specification has it: a free chunk written, what is freed. Chapter 9: a new heap; by the specification and by the program. Chapter 9:
-/
import Derived.Test.YtkiognecebgaiaaGreatDoorM7
import Derived.Test.YtkiognecebgaiaaGreatDoorM3
import Derived.Test.YtkiognecebgaiaaGreatDoorM8
import Derived.Test.YtkiognecebgaiaaGreatDoorM5
import Derived.Deep.RegionLaw
import Derived.Deep.Upon
import Derived.Lib.Hide
import Derived.Maps.AppendAt
import Derived.Test.YtkiognecebgaiaaGreatDoorM1
namespace Go.Proofs.YtkiognecebgaiaaGreatDoor.walks
open Go.RowKit rows heads words
set_option maxRecDepth 100000
theorem isFree_any (s f c h:Int) (p m:Bool) (u:Value) (w:World) :
    Calls Tryz.prog 177 #[cv s f c h p m u] w fun e w'=>e = .returned (.bool (f==6))∧w'=w.alloc (cb s f c h p m u):=by
 go_enter Tryz.func177,Tryz.ntmps177
 go_wp2
 go_ret
 exact⟨rfl,rfl⟩
theorem slots_any (s f c h:Int) (p m:Bool) (b o N n:Nat) (w:World) (hN:N≤1048576) (hn:(if f=7 then 1 else s)=(n:Int)) (hle:1+n≤N) :
    Calls Tryz.prog 158 #[cv s f c h p m (.slice (some ⟨b,o,none⟩) N N)] w fun e w'=>e = .returned (piece (some ⟨b,o,none⟩) 1 n)∧Below w.heap.size w w':=by
 have B0:Below w.heap.size w ((w.alloc (cb s f c h p m (.slice (some ⟨b,o,none⟩) N N))).alloc (cb s f c h p m (.slice (some ⟨b,o,none⟩) N N))):=((Below.refl _ w).alloc (Nat.le_refl _) _).alloc (by simp) _
 have HB:Hid _:=B0
 clear B0
 by_cases h7:f=7
 ·subst h7
  have e1:n=1:=by simp at hn;omega
  subst e1
  go_enter Tryz.func158,Tryz.ntmps158
  go_wp2_with (go_at_call 180;refine (isNote_any _ _ _ _ _ _ _ _).mono ?_;rintro e w1 ⟨rfl,rfl⟩)
  all_goals go_ret
  all_goals exact⟨by simp[piece,Addr.add],HB⟩
 ·have h7':(f==7)=false:=by simpa using h7
  rw[if_neg h7]at hn
  subst hn
  go_enter Tryz.func158,Tryz.ntmps158
  go_wp2_with (go_at_call 180;refine (isNote_any _ _ _ _ _ _ _ _).mono ?_;rintro e w1 ⟨rfl,rfl⟩)
  ·have e0:n=0:=by omega
   subst e0
   go_ret
   exact⟨by simp[piece],HB⟩
  ·go_ret
   exact⟨by simp[piece,Addr.add, *],HB⟩
theorem piece_is {w:World} {a:Option Addr} {cap:Nat} {xs:List Int} (h:IntsAt w (.slice a xs.length cap) xs) (hl:xs.length≤1048576) (k n:Nat) (hk:k+n≤xs.length):IntsAt w (piece a k n) ((xs.drop k).take n):=by
 obtain⟨a',cap',e,hlc,hcm,hnil,hc⟩:=h
 injection e with e1 e2 e3
 subst e1 e3
 have el:((xs.drop k).take n).length=n:=by simp;omega
 by_cases h0:n=0
 ·subst h0
  rw[piece_none]
  exact⟨a,0,by simp,by simp,by decide,fun _=>rfl,fun h=>by simp at h⟩
 ·obtain⟨b,off,rfl,hb,hcc⟩:=hc (by omega)
  rw[piece_at b off k n (by omega)]
  refine⟨_,n,by rw[el],by omega,by unfold maxLen;omega,fun h=>by simp at h,fun _=>⟨b,off+k,rfl,hb,fun i hi => ?_⟩⟩
  rw[el]at hi
  have:=hcc (k+i) (by omega)
  rw[Nat.add_assoc,this]
  simp[List.getD_eq_getElem?_getD,hi]
end Go.Proofs.YtkiognecebgaiaaGreatDoor.walks
namespace Go.Proofs.YtkiognecebgaiaaGreatDoor.hp
open Go.RowKit rows heads words walks
set_option maxRecDepth 100000
set_option linter.unusedVariables false
set_option linter.unusedSimpArgs false
def evn (lo hi x:Int):Bool:=inR lo hi x&&decide (x % 2=0)
def hp0:Hp:=⟨0,0,[],0,0,[],[],[],0⟩
theorem inR_true {lo hi x:Int} (h:inR lo hi x=true):lo≤x∧x≤hi:=by simpa [inR] using h
theorem inR_false {lo hi x:Int} (h:inR lo hi x=false):¬(lo≤x∧x≤hi):=by simpa [inR] using h
theorem evn_true {lo hi x:Int} (h:evn lo hi x=true):lo≤x∧x≤hi∧x % 2=0:=by
 simp only[evn,Bool.and_eq_true,decide_eq_true_eq]at h
 exact⟨(inR_true h.1).1,(inR_true h.1).2,h.2⟩
set_option maxHeartbeats 2000000 in
theorem evenWithin_any (x lo hi:Int) (hlo:0≤lo) (w:World) :
    Calls Tryz.prog 190 #[.int .i64 x,.int .i64 lo,.int .i64 hi] w fun e w'=>e = .returned (.bool (evn lo hi x))∧w'=w:=by
 by_cases h1:lo≤x
 ·by_cases h2:x≤hi
  ·by_cases h3:x % 2=0
   ·have e:evn lo hi x=true:=by simp[evn,inR,h1,h2,h3]
    rw[e]
    have m1:(x.tmod 2==0)=true:=by rw[Int.tmod_eq_emod_of_nonneg (by omega),h3];rfl
    have m2:(x % 2==0)=true:=by rw[h3];rfl
    clear e h3
    go_enter Tryz.func190,Tryz.ntmps190
    go_wp2
    go_ret
    exact⟨rfl,rfl⟩
   ·have h3':x % 2=1:=by omega
    have e:evn lo hi x=false:=by simp[evn,inR,h1,h2,h3']
    rw[e]
    have m1:(x.tmod 2==0)=false:=by rw[Int.tmod_eq_emod_of_nonneg (by omega),h3'];rfl
    have m2:(x % 2==0)=false:=by rw[h3'];rfl
    clear e h3 h3'
    go_enter Tryz.func190,Tryz.ntmps190
    go_wp2
    go_ret
    exact⟨rfl,rfl⟩
  ·have e:evn lo hi x=false:=by simp[evn,inR,h2]
   rw[e]
   clear e
   go_enter Tryz.func190,Tryz.ntmps190
   go_wp2
   go_ret
   exact⟨rfl,rfl⟩
 ·have e:evn lo hi x=false:=by simp[evn,inR,h1]
  rw[e]
  clear e
  go_enter Tryz.func190,Tryz.ntmps190
  go_wp2
  go_ret
  exact⟨rfl,rfl⟩
theorem sizesOk_any (x y:Int) (w:World) :
    Calls Tryz.prog 169 #[.int .i64 x,.int .i64 y] w fun e w'=>e = .returned (.bool (evn 8 200 x&&evn 8 400 y))∧w'=w:=by
 have E1:=evenWithin_any x 8 200 (by decide)
 have E2:=evenWithin_any y 8 400 (by decide)
 cases d:evn 8 200 x
 ·rw[d]at E1
  go_enter Tryz.func169,Tryz.ntmps169
  go_wp2_with (go_at_call 190;refine (E1 _).mono ?_;clear E1;rintro e w3 ⟨rfl,hw3⟩;rw[hw3];clear hw3 w3)
  go_ret
  exact⟨rfl,rfl⟩
 ·rw[d]at E1
  go_enter Tryz.func169,Tryz.ntmps169
  go_wp2_with (first
   |(have hh:=E1;clear hh;go_at_call 190;refine (E1 _).mono ?_;clear E1;rintro e w3 ⟨rfl,hw3⟩;rw[hw3];clear hw3 w3)
   |(have hh:=E2;clear hh;go_at_call 190;refine (E2 _).mono ?_;clear E2;rintro e w3 ⟨rfl,hw3⟩;rw[hw3];clear hw3 w3))
  go_ret
  exact⟨rfl,rfl⟩
theorem rowLength_any (X Y L:Nat) (hL:2*X+Y=L) (hm:L≤1048576) (w:World) :
    Calls Tryz.prog 170 #[.int .i64 (X:Int),.int .i64 (Y:Int)] w fun e w'=>e = .returned (.int .i64 (L:Int))∧w'=w:=by
 have b1:X≤1048576:=by omega
 have b2:Y≤1048576:=by omega
 have HL:Hid _:=hL
 clear hL
 go_enter Tryz.func170,Tryz.ntmps170
 go_wp2
 go_ret
 exact⟨by rw[←HL.out];go_num,rfl⟩
theorem infoS:(Tryz.prog.info? 2).map (·.size)=some 1:=by kernel_rfl
end Go.Proofs.YtkiognecebgaiaaGreatDoor.hp
namespace Go.Proofs.YtkiognecebgaiaaGreatDoor.hp
open Go.RowKit rows heads words walks
set_option maxRecDepth 100000
set_option linter.unusedVariables false
structure Pd where
 s:Int
 f:Int
 c:Int
 h:Int
 p:Bool
 m:Bool
 u:Value
 pl:Int
abbrev pdv (d:Pd):Value:=.agg #[(.int .i64 d.s),(.int .i64 d.f),(.int .i64 d.c),(.int .i64 d.h),(.bool d.p),(.bool d.m),d.u,(.int .i64 d.pl)]
abbrev pdb (d:Pd):Obj:=.cells #[(.int .i64 d.s),(.int .i64 d.f),(.int .i64 d.c),(.int .i64 d.h),(.bool d.p),(.bool d.m),d.u,(.int .i64 d.pl)] 197
abbrev pdD:Pd:=⟨0,0,0,0,false,false,.slice none 0 0,0⟩
def pdOf (a:Option Addr) (xs:List Int) (k:Nat):Pd:=⟨uS (xs.getD k 0),uF (xs.getD k 0),uC (xs.getD k 0),uH (xs.getD k 0),uP (xs.getD k 0),uM (xs.getD k 0),piece a k (chunk xs k).toNat,k⟩
def cellsP:List Pd→List Value
 | []=>[]
 |d :: ds=>(.int .i64 d.s) :: (.int .i64 d.f) :: (.int .i64 d.c) :: (.int .i64 d.h) :: (.bool d.p) :: (.bool d.m) :: d.u :: (.int .i64 d.pl) :: cellsP ds
theorem cellsP_length:∀ds:List Pd,(cellsP ds).length=ds.length*8
 | []=>rfl
 |_ :: ds=>by simp[cellsP,cellsP_length ds];omega
theorem cellsP_append:∀ds es:List Pd,cellsP (ds++es)=cellsP ds++cellsP es
 | [],_=>rfl
 |_ :: ds,es=>by simp[cellsP,cellsP_append ds es]
theorem cellsP_at:∀(ds:List Pd) (i:Nat),i<ds.length→(cellsP ds)[i*8]? = some (.int .i64 (ds.getD i pdD).s)∧(cellsP ds)[i*8+1]? = some (.int .i64 (ds.getD i pdD).f)∧(cellsP ds)[i*8+2]? = some (.int .i64 (ds.getD i pdD).c)∧(cellsP ds)[i*8+3]? = some (.int .i64 (ds.getD i pdD).h)∧(cellsP ds)[i*8+4]? = some (.bool (ds.getD i pdD).p)∧(cellsP ds)[i*8+5]? = some (.bool (ds.getD i pdD).m)∧(cellsP ds)[i*8+6]? = some ((ds.getD i pdD).u)∧(cellsP ds)[i*8+7]? = some (.int .i64 (ds.getD i pdD).pl)
 | [],_,h=>by simp at h
 |e :: ds,0,_=>by simp[cellsP]
 |e :: ds,i+1,h=>by
  have:=cellsP_at ds i (by simpa using h)
  rw[show (i+1)*8=i*8+1+1+1+1+1+1+1+1 by omega]
  simpa [cellsP] using this
def SlicesP (ds:List Pd):Prop:=∀d ∈ ds,∃a n c,d.u = .slice a n c
theorem cellsP_one:∀ {ds:List Pd},SlicesP ds→∀v ∈ cellsP ds,v.oneCell'=true
 | [],_,v,h=>by simp[cellsP]at h
 |d :: ds,hs,v,h=>by
  simp only[cellsP,List.mem_cons]at h
  rcases h with rfl|rfl|rfl|rfl|rfl|rfl|rfl|rfl|h
  ·rfl
  ·rfl
  ·rfl
  ·rfl
  ·rfl
  ·rfl
  ·obtain⟨a,n,c,e⟩:=hs d (List.mem_cons_self ..)
   rw[e];rfl
  ·rfl
  ·exact cellsP_one (fun d' hd=>hs d' (List.mem_cons_of_mem _ hd)) v h
def PdsAt (w:World) (v:Value) (ds:List Pd):Prop:=
 ∃a cap,v = .slice a ds.length cap∧ds.length≤cap∧cap≤maxLen∧(a=none→cap=0) ∧
  (0<ds.length→∃b off,a=some ⟨b,off,none⟩∧b<w.heap.size∧∀i,i<ds.length→w.cell? ⟨b,off+i*8,none⟩=some (.int .i64 (ds.getD i pdD).s)∧w.cell? ⟨b,off+i*8+1,none⟩=some (.int .i64 (ds.getD i pdD).f)∧w.cell? ⟨b,off+i*8+2,none⟩=some (.int .i64 (ds.getD i pdD).c)∧w.cell? ⟨b,off+i*8+3,none⟩=some (.int .i64 (ds.getD i pdD).h)∧w.cell? ⟨b,off+i*8+4,none⟩=some (.bool (ds.getD i pdD).p)∧w.cell? ⟨b,off+i*8+5,none⟩=some (.bool (ds.getD i pdD).m)∧w.cell? ⟨b,off+i*8+6,none⟩=some ((ds.getD i pdD).u)∧w.cell? ⟨b,off+i*8+7,none⟩=some (.int .i64 (ds.getD i pdD).pl))
theorem pdsAt_below {w w':World} {v:Value} {ds:List Pd} (h:PdsAt w v ds) (hb:Below w.heap.size w w'):PdsAt w' v ds:=by
 obtain⟨a,cap,rfl,h1,h2,h4,h3⟩:=h
 refine⟨a,cap,rfl,h1,h2,h4,fun hp => ?_⟩
 obtain⟨b,off,rfl,hlt,hc⟩:=h3 hp
 refine⟨b,off,rfl,Nat.lt_of_lt_of_le hlt hb.size,fun i hi => ?_⟩
 obtain⟨k0,k1,k2,k3,k4,k5,k6,k7⟩:=hc i hi
 exact⟨(hb.cell (p:=⟨b,_,none⟩) hlt).trans k0,(hb.cell (p:=⟨b,_,none⟩) hlt).trans k1,(hb.cell (p:=⟨b,_,none⟩) hlt).trans k2,(hb.cell (p:=⟨b,_,none⟩) hlt).trans k3,(hb.cell (p:=⟨b,_,none⟩) hlt).trans k4,(hb.cell (p:=⟨b,_,none⟩) hlt).trans k5,(hb.cell (p:=⟨b,_,none⟩) hlt).trans k6,(hb.cell (p:=⟨b,_,none⟩) hlt).trans k7⟩
def OwnP (w:World) (base:Nat) (v:Value) (ds:List Pd):Prop:=w.ownsRow base 197 8 v ds.length (cellsP ds)
theorem ownP_below {w w':World} {base:Nat} {v:Value} {ds:List Pd} (h:OwnP w base v ds) (hb:Below w.heap.size w w'):OwnP w' base v ds:=row_ch (S:=[]) h (ch_below hb) (by simp)
theorem ownP_base {w:World} {base base':Nat} {v:Value} {ds:List Pd} (h:OwnP w base v ds) (hb:base'≤base):OwnP w base' v ds:=by
 obtain⟨h0,⟨h1,h2⟩|⟨g,cap,cur,h1,hg,hh⟩⟩:=h
 ·exact⟨h0,.inl ⟨h1,h2⟩⟩
 ·exact⟨h0,.inr ⟨g,cap,cur,h1,Nat.le_trans hb hg,hh⟩⟩
theorem ownP_at {w:World} {base:Nat} {v:Value} {ds:List Pd} (h:OwnP w base v ds):PdsAt w v ds:=by
 have h':=h
 obtain⟨_,⟨rfl,hn⟩|⟨g,cap,cur,rfl,hg,hh,hle,hm,hs,ht⟩⟩:=h
 ·have:ds=[]:=by simpa using hn
  subst this
  exact⟨none,0,rfl,by simp,by decide,fun _=>rfl,fun hp=>absurd hp (by simp)⟩
 ·refine⟨_,cap,rfl,hle,hm,fun h=>(by cases h),fun hp=>⟨g,0,rfl,lt_of_block hh,fun i hi => ?_⟩⟩
  obtain⟨k0,k1,k2,k3,k4,k5,k6,k7⟩:=cellsP_at ds i hi
  have cl:∀j,j<ds.length*8→w.cell? ⟨g,0+j,none⟩=(cellsP ds)[j]? := fun j hj=>by rw[Nat.zero_add];exact World.ownsRow.cellAt h' j (by omega)
  refine⟨(show w.cell? ⟨g,0+i*8,none⟩=_ from (cl (i*8) (by omega)).trans k0),(show w.cell? ⟨g,0+i*8+1,none⟩=_ from by rw[Nat.add_assoc];exact (cl (i*8+1) (by omega)).trans k1),(show w.cell? ⟨g,0+i*8+2,none⟩=_ from by rw[Nat.add_assoc];exact (cl (i*8+2) (by omega)).trans k2),(show w.cell? ⟨g,0+i*8+3,none⟩=_ from by rw[Nat.add_assoc];exact (cl (i*8+3) (by omega)).trans k3),(show w.cell? ⟨g,0+i*8+4,none⟩=_ from by rw[Nat.add_assoc];exact (cl (i*8+4) (by omega)).trans k4),(show w.cell? ⟨g,0+i*8+5,none⟩=_ from by rw[Nat.add_assoc];exact (cl (i*8+5) (by omega)).trans k5),(show w.cell? ⟨g,0+i*8+6,none⟩=_ from by rw[Nat.add_assoc];exact (cl (i*8+6) (by omega)).trans k6),(show w.cell? ⟨g,0+i*8+7,none⟩=_ from by rw[Nat.add_assoc];exact (cl (i*8+7) (by omega)).trans k7)⟩
theorem pds_slice {w:World} {v:Value} {ds:List Pd} (h:PdsAt w v ds):∃a c,v = .slice a ds.length c:=by
 obtain⟨a,c,e,_⟩:=h
 exact⟨a,c,e⟩
theorem pds_cell {w:World} {a:Option Addr} {n cap:Nat} {ds:List Pd} (h:PdsAt w (.slice a n cap) ds) {i:Nat} (hi:i<ds.length):∃b off,a=some ⟨b,off,none⟩∧b<w.heap.size∧w.cell? ⟨b,off+i*8,none⟩=some (.int .i64 (ds.getD i pdD).s)∧w.cell? ⟨b,off+i*8+1,none⟩=some (.int .i64 (ds.getD i pdD).f)∧w.cell? ⟨b,off+i*8+2,none⟩=some (.int .i64 (ds.getD i pdD).c)∧w.cell? ⟨b,off+i*8+3,none⟩=some (.int .i64 (ds.getD i pdD).h)∧w.cell? ⟨b,off+i*8+4,none⟩=some (.bool (ds.getD i pdD).p)∧w.cell? ⟨b,off+i*8+5,none⟩=some (.bool (ds.getD i pdD).m)∧w.cell? ⟨b,off+i*8+6,none⟩=some ((ds.getD i pdD).u)∧w.cell? ⟨b,off+i*8+7,none⟩=some (.int .i64 (ds.getD i pdD).pl):=by
 obtain⟨a',c',e,_,_,_,hc⟩:=h
 injection e with e1 e2 e3
 subst e1
 obtain⟨b,off,rfl,hb,hcc⟩:=hc (by omega)
 exact⟨b,off,rfl,hb,hcc i hi⟩
theorem pds_cap {w:World} {a:Option Addr} {n cap:Nat} {ds:List Pd} (h:PdsAt w (.slice a n cap) ds):n=ds.length∧n≤cap∧cap≤9223372036854775807:=by
 obtain⟨a',c',e,h1,h2,_,_⟩:=h
 injection e with e1 e2 e3
 subst e3
 exact⟨e2,by omega,h2⟩
theorem pds_news {w:World} {ad:Addr} {n cap:Nat} {ds:List Pd} (h:PdsAt w (.slice (some ad) n cap) ds):∀j v,(cellsP ds)[j]? = some v→w.cell? (ad.add j)=some v:=by
 intro j v hj
 have hl:j<(cellsP ds).length:=(List.getElem?_eq_some_iff.1 hj).1
 rw[cellsP_length]at hl
 obtain⟨i,hi⟩:∃i,j / 8=i:=⟨_,rfl⟩
 have hd:i<ds.length:=by omega
 obtain⟨b,off,e,_,k0,k1,k2,k3,k4,k5,k6,k7⟩:=pds_cell h hd
 injection e with e
 subst e
 obtain⟨q0,q1,q2,q3,q4,q5,q6,q7⟩:=cellsP_at ds i hd
 have e2:(⟨b,off,none⟩:Addr).add j=⟨b,off+j,none⟩:=by cases j<;>simp[Addr.add]
 rw[e2]
 rcases (show j=i*8∨j=i*8+1∨j=i*8+2∨j=i*8+3∨j=i*8+4∨j=i*8+5∨j=i*8+6∨j=i*8+7 by omega) with e|e|e|e|e|e|e|e
 ·rw[e]at hj
  rw[q0]at hj
  cases hj
  rw[e]
  exact k0
 ·rw[e]at hj
  rw[q1]at hj
  cases hj
  rw[e,←Nat.add_assoc]
  exact k1
 ·rw[e]at hj
  rw[q2]at hj
  cases hj
  rw[e,←Nat.add_assoc]
  exact k2
 ·rw[e]at hj
  rw[q3]at hj
  cases hj
  rw[e,←Nat.add_assoc]
  exact k3
 ·rw[e]at hj
  rw[q4]at hj
  cases hj
  rw[e,←Nat.add_assoc]
  exact k4
 ·rw[e]at hj
  rw[q5]at hj
  cases hj
  rw[e,←Nat.add_assoc]
  exact k5
 ·rw[e]at hj
  rw[q6]at hj
  cases hj
  rw[e,←Nat.add_assoc]
  exact k6
 ·rw[e]at hj
  rw[q7]at hj
  cases hj
  rw[e,←Nat.add_assoc]
  exact k7
theorem infoP:(Tryz.prog.info? 197).map (fun i=>(i.zero,i.size,i.bytes))=some (some (pdv pdD),8,72):=by kernel_rfl
end Go.Proofs.YtkiognecebgaiaaGreatDoor.hp
namespace Go.Proofs.YtkiognecebgaiaaGreatDoor.hp
open Go.RowKit rows heads words walks
set_option maxRecDepth 100000
set_option linter.unusedVariables false
set_option linter.unusedSimpArgs false
def pdsOf (a:Option Addr) (xs:List Int) (ps:List Int):List Pd:=ps.map (fun p=>pdOf a xs p.toNat)
theorem pdsOf_slices (a:Option Addr) (xs:List Int) (ps:List Int):SlicesP (pdsOf a xs ps):=by
 intro d hd
 obtain⟨p,_,rfl⟩:=List.mem_map.1 hd
 exact⟨_,_,_,rfl⟩
theorem pd_new (W:World) (d:Pd):∀j u,(cellsP [d])[j]? = some u→(W.alloc (pdb d)).cell? ((⟨W.heap.size,0,none⟩:Addr).add j)=some u:=by
 intro j u hj
 have e2:(⟨W.heap.size,0,none⟩:Addr).add j=⟨W.heap.size,j,none⟩:=by cases j<;>simp[Addr.add]
 rw[e2]
 have hl:j<8:=by have:=(List.getElem?_eq_some_iff.1 hj).1;simpa [cellsP] using this
 have hb:(W.alloc (pdb d)).heap[W.heap.size]? = some (pdb d):=heap_alloc_new W _
 rcases (show j=0∨j=1∨j=2∨j=3∨j=4∨j=5∨j=6∨j=7 by omega) with rfl|rfl|rfl|rfl|rfl|rfl|rfl|rfl
 all_goals
  simp only[cellsP,List.getElem?_cons_zero,List.getElem?_cons_succ,Option.some.injEq]at hj
  subst hj
  unfold World.cell?
  rw[hb]
  rfl
theorem ownP_app {W:World} {base:Nat} {v:Value} {ds:List Pd} {d:Pd} (h:W.ownsRow base 197 8 v (ds.length+1) (cellsP ds++cellsP [d])):OwnP W base v (ds++[d]):=by
 unfold OwnP
 rw[cellsP_append,List.length_append]
 exact h
theorem ownP_first {W:World} {base g:Nat} (hg:W.heap[g]? = some (.cells #[] 197 (0,0))) (hb:base≤g):OwnP W base (.slice (some ⟨g,0,none⟩) 0 0) []:=
 ⟨rfl,.inr ⟨g,0,#[],rfl,hb,hg,Nat.le_refl _,by decide,rfl,rfl⟩⟩
set_option maxHeartbeats 8000000 in
theorem placedIn_any {w:World} {a:Option Addr} {cap:Nat} {xs:List Int} (h:IntsAt w (.slice a xs.length cap) xs) (hl:xs.length≤1048576) (ha:AllI xs) (f t:Int) (hf:I64 f) (ht:I64 t) :
    Calls Tryz.prog 172 #[.slice a xs.length cap,.int .i64 f,.int .i64 t] w fun e w'=>∃v',e = .returned (.tuple #[v',.bool (walkOk xs f t)])∧OwnP w' w.heap.size v' (pdsOf a xs (walked xs f t))∧Below w.heap.size w w':=by
 obtain⟨L,hL⟩:∃L,walked xs f t=L:=⟨_,rfl⟩
 obtain⟨ok,hok⟩:∃ok,walkOk xs f t=ok:=⟨_,rfl⟩
 have HM:Hid (∀x ∈ L,∃j:Nat,x=j∧j<xs.length∧rowOk xs=true∧chunk xs j≠0):=fun x hx=>walked_mem (hL▸hx)
 have hLl:L.length≤1000:=by have:=(walked_length xs f t).1;rw[hL]at this;exact this
 have WK:=implWalk w _ xs f t h hl ha hf ht
 rw[hL,hok]at WK
 rw[hL,hok]
 obtain⟨i0,hi,hz0,hz1,hz2⟩:=info_parts infoP
 have HI:Hid _:=And.intro hi (And.intro hz0 (And.intro hz1 hz2))
 have HH:Hid (IntsAt w (.slice a xs.length cap) xs):=h
 have HA:Hid _:=ha
 clear hL hok hi hz0 hz1 hz2 h ha
 go_enter Tryz.func172,Tryz.ntmps172
 go_wp2_with fail
 refine WK.mono ?_
 clear WK
 rintro e w1 ⟨vl,rfl,O1,b1⟩
 have HO1:Hid (rows.Own w1 w.heap.size vl L):=O1
 obtain⟨la,lc,rfl,hl1,hl2,_,_⟩:=own_ints O1
 have HB1:Hid _:=b1
 have s1:=b1.size
 have OE:OwnP (w1.alloc (.cells #[] 197)) w.heap.size (.slice (some ⟨w1.heap.size,0,none⟩) 0 0) []:=ownP_first (heap_alloc_new w1 _) s1
 have BE:Below w.heap.size w (w1.alloc (.cells #[] 197)):=b1.alloc s1 _
 have HOE:Hid _:=OE
 have HBE:Hid _:=BE
 have HOL:Hid (rows.Own (w1.alloc (.cells #[] 197)) w.heap.size (.slice la L.length lc) L):=own_below HO1.out ((Below.refl _ _).alloc (Nat.le_refl _) _)
 have HLT:Hid (∀k,(Value.slice la L.length lc).ownBlock=some k→k<w1.heap.size):=fun k e=>(World.ownsRow.lt HO1.out k e).2
 have sX:w1.heap.size≤(w1.alloc (.cells #[] 197)).heap.size:=by simp
 clear O1 b1 OE BE
 go_wp2_with fail
 generalize (w1.alloc (.cells #[] 197))=X at *
 go_loopw [10,25] (fun o i wr=>∃(k:Nat) (v:Value),v=o∧k≤L.length∧i = .int .i64 (k:Int)∧OwnP wr w.heap.size v (pdsOf a xs (L.take k))∧(∀b,v.ownBlock=some b→w1.heap.size≤b)∧rows.Own wr w.heap.size (.slice la L.length lc) L∧w1.heap.size≤wr.heap.size∧Below w.heap.size w wr) (fun _ i _=>L.length-(intOf i).toNat)
 case atStart=>exact⟨0,_,rfl,Nat.zero_le _,rfl,HOE.out,fun b e=>by simp[Value.ownBlock]at e;omega,HOL.out,sX,HBE.out⟩
 case round=>
  obtain⟨k,v,rfl,hk,rfl,hO,hbk,hOL,hws,hB⟩:=hrel
  by_cases hlt:k<L.length
  ·have hlt':(k:Int)<(L.length:Int):=by omega
   obtain⟨j,hj,hjl,hro,hch⟩:=HM.out (L.getD k 0) (by rw[List.getD_eq_getElem?_getD,List.getElem?_eq_getElem hlt];exact List.getElem_mem hlt)
   obtain⟨la',lc',e',_,_,_,hcy⟩:=own_ints hOL
   injection e' with e1 e2 e3
   subst e1 e3
   obtain⟨lb,lo,rfl,_,hcy⟩:=hcy (by omega)
   have x0:=hcy k hlt
   rw[hj]at x0
   have hokj:okAt xs (j:Int)=true:=by simp only[okAt,atOk,hro,Bool.true_and,Bool.and_eq_true,decide_eq_true_eq];omega
   have CH:=chunkOf_in (intsAt_below HH.out hB) hl HA.out j hokj
   have ech:chRes a xs j = .tuple #[cv (uS (xs.getD j 0)) (uF (xs.getD j 0)) (uC (xs.getD j 0)) (uH (xs.getD j 0)) (uP (xs.getD j 0)) (uM (xs.getD j 0)) (piece a j (chunk xs j).toNat),.bool true]:=by unfold chRes;rw[if_neg hch]
   rw[ech]at CH
   obtain⟨pa,pn,pc,hpe⟩:∃pa pn pc,piece a j (chunk xs j).toNat = .slice pa pn pc:=⟨_,_,_,rfl⟩
   have HPD:Hid (pdOf a xs j=⟨uS (xs.getD j 0),uF (xs.getD j 0),uC (xs.getD j 0),uH (xs.getD j 0),uP (xs.getD j 0),uM (xs.getD j 0),.slice pa pn pc,j⟩):=by show pdOf a xs j=_;unfold pdOf;rw[hpe]
   have HNX:Hid (pdsOf a xs (L.take (k+1))=pdsOf a xs (L.take k)++[pdOf a xs j]):=by
    show pdsOf a xs (L.take (k+1))=_
    unfold pdsOf
    rw[List.take_add_one,List.map_append,List.getElem?_eq_getElem hlt]
    have:L[k]=(j:Int):=by rw[←hj,List.getD_eq_getElem?_getD,List.getElem?_eq_getElem hlt];rfl
    simp[this]
   rw[hpe]at CH
   rw[HPD.out]at HNX
   have hdl:(pdsOf a xs (L.take k)).length=k:=by unfold pdsOf;simp;omega
   clear hj hcy ech hpe hokj hro hch HPD
   generalize uF (xs.getD j 0)=f' at *
   generalize uS (xs.getD j 0)=s' at *
   generalize uC (xs.getD j 0)=c' at *
   generalize uH (xs.getD j 0)=g' at *
   generalize uP (xs.getD j 0)=p' at *
   generalize uM (xs.getD j 0)=m' at *
   generalize pdsOf a xs (L.take k)=ds at *
   have HOV:Hid _:=hO
   have HOL2:Hid _:=hOL
   have HB2:Hid _:=hB
   have HBK:Hid _:=hbk
   clear hO hOL hB hbk
   go_wp2_with fail
   refine CH.mono ?_
   clear CH
   rintro e w3 ⟨rfl,b3⟩
   have s3:=b3.size
   have B4:Below wr.heap.size wr (w3.alloc (cb s' f' c' g' p' m' (.slice pa pn pc))):=b3.alloc b3.size _
   have T4:=chAt_new w3 s' f' c' g' p' m' (.slice pa pn pc)
   obtain⟨t0,t1,t2,t3,t4,t5,t6,_⟩:=chAt_cells T4
   have O4:=ownP_below HOV.out B4
   have L4:=own_below HOL2.out B4
   have W4:=HB2.out.trans (B4.mono HB2.out.size)
   have s4:w3.heap.size<(w3.alloc (cb s' f' c' g' p' m' (.slice pa pn pc))).heap.size:=by simp
   obtain⟨va,vc,rfl⟩:=pds_slice (ownP_at HOV.out)
   have HDL:Hid _:=hdl
   have bdl:ds.length≤1000:=by omega
   clear hdl HOV HOL2 HB2 b3 T4
   go_upto_region 7 with fail
   generalize hY:w3.alloc (cb s' f' c' g' p' m' (.slice pa pn pc))=Y at *
   clear hY B4
   have HOA:Hid ((Y.alloc (pdb ⟨s',f',c',g',p',m',.slice pa pn pc,j⟩)).ownsRow w.heap.size 197 8 (.slice va ds.length vc) ds.length (cellsP ds)):=World.ownsRow.alloc O4 _
   have HNW:Hid _:=pd_new Y ⟨s',f',c',g',p',m',.slice pa pn pc,j⟩
   have HON:Hid (∀v ∈ cellsP [(⟨s',f',c',g',p',m',.slice pa pn pc,j⟩:Pd)],v.oneCell'=true):=cellsP_one (fun d hd=>by rw[List.mem_singleton]at hd;subst hd;exact⟨_,_,_,rfl⟩)
   have sb:w.heap.size≤(Y.alloc (pdb ⟨s',f',c',g',p',m',.slice pa pn pc,j⟩)).heap.size:=by have:=W4.size;simp;omega
   have HSTEP:Hid (∀(v':Value) (w5:World),w5.ownsRow w.heap.size 197 8 v' (ds.length+1) (cellsP ds++cellsP [(⟨s',f',c',g',p',m',.slice pa pn pc,j⟩:Pd)])→(Y.alloc (pdb ⟨s',f',c',g',p',m',.slice pa pn pc,j⟩)).grownBy w5 (Value.slice va ds.length vc).ownBlock→(v'.ownBlock=(Value.slice va ds.length vc).ownBlock∨v'.ownBlock=some (Y.alloc (pdb ⟨s',f',c',g',p',m',.slice pa pn pc,j⟩)).heap.size)→(∃a n c,v' = .slice a n c)∧OwnP w5 w.heap.size v' (pdsOf a xs (L.take (k+1)))∧(∀b,v'.ownBlock=some b→w1.heap.size≤b)∧rows.Own w5 w.heap.size (.slice (some ⟨lb,lo,none⟩) L.length lc) L∧w1.heap.size≤w5.heap.size∧Below w.heap.size w w5):=by
    intro v' w5 h1 h2 h3
    have O5:=ownP_app h1
    have hv:=pds_slice (ownP_at O5)
    have C1:Ch (blk (Value.slice va ds.length vc)) Y (Y.alloc (pdb ⟨s',f',c',g',p',m',.slice pa pn pc,j⟩)):=ch_below ((Below.refl _ _).alloc (Nat.le_refl _) _)
    have C2:=C1.trans (ch_grown h2)
    have hsz:=C2.size
    refine⟨?_,?_,?_,?_,by omega,?_⟩
    ·obtain⟨a',c',e⟩:=hv;exact⟨a',_,c',e⟩
    ·rw[HNX.out];exact O5
    ·intro b hb
     rcases h3 with h3|h3
     ·exact HBK.out b (by rw[←h3];exact hb)
     ·rw[h3]at hb;injection hb with hb;simp at hb;omega
    ·refine row_ch L4 C2 (fun q hq e => ?_)
     have q1:=HLT.out q (by unfold blk at hq;exact Option.mem_toList.1 hq)
     have q2:=HBK.out q (by unfold blk at e;exact Option.mem_toList.1 e)
     omega
    ·exact W4.trans (below_ch C2 W4.size (fun q hq=>(blk_lt O4 q hq).1))
   clear O4 L4 W4
   go_wp2_with (refine wpList_append_own_at _ rfl (.tmp 35) (.tmp 39) 151 rfl w.heap.size 197 i0 (pdv pdD) 8 72 Tryz.underlying151 HI.out.1 HI.out.2.1 HI.out.2.2.1 HI.out.2.2.2 rfl (by decide) (.slice va ds.length vc) ds.length (cellsP ds) rfl HOA.out ⟨Y.heap.size,0,none⟩ 1 1 (cellsP [(⟨s',f',c',g',p',m',.slice pa pn pc,j⟩:Pd)]) rfl rfl HNW.out HON.out (by unfold maxLen;omega) (by omega) sb ?_;intro v' w5 h1 h2 _ h3;obtain⟨⟨na,nn,nc,rfl⟩,hh⟩:=HSTEP.out v' w5 h1 h2 h3;have HFN:Hid _:=hh;clear h1 h2 h3 hh HSTEP HOA HNW HON)
   exact⟨⟨k+1,_,rfl,by omega,by go_num,HFN.out.1,HFN.out.2.1,HFN.out.2.2.1,HFN.out.2.2.2.1,HFN.out.2.2.2.2⟩,by simp[intOf];omega⟩
  ·have hlt':¬(k:Int)<(L.length:Int):=by omega
   have HF:Hid (OwnP wr w.heap.size v (pdsOf a xs L)):=by
    show OwnP _ _ _ _
    have:=hO
    rwa [List.take_of_length_le (show L.length≤k by omega)]at this
   have HBF:Hid _:=hB
   obtain⟨va,vc,rfl⟩:=pds_slice (ownP_at hO)
   clear hO hbk hOL hB
   go_wp2
   go_ret2
   exact⟨_,rfl,HF.out,HBF.out⟩
theorem ints_cellI {w:World} {a:Option Addr} {n cap:Nat} {xs:List Int} (h:IntsAt w (.slice a n cap) xs) {k:Nat} (hk:k<xs.length):∃b off,a=some ⟨b,off,none⟩∧b<w.heap.size∧w.cell? ⟨b,off+k,none⟩=some (.int .i64 (xs.getD k 0)):=by
 obtain⟨a',c',e,_,_,_,hc⟩:=h
 injection e with e1 e2 e3
 subst e1
 obtain⟨b,off,rfl,hb,hcc⟩:=hc (by omega)
 exact⟨b,off,rfl,hb,hcc k hk⟩
def idxP (t:Pd→Bool) (ds:List Pd):Int:=match ds.findIdx? t with|some i=>(i:Int)|none => -1
theorem idxP_at {t:Pd→Bool} {ds:List Pd} {k:Nat} (hk:k<ds.length) (h:t (ds.getD k pdD)=true) (hn:∀m,m<k→t (ds.getD m pdD)=false):idxP t ds=k:=by
 unfold idxP
 have e:ds.findIdx? t=some k:=by
  rw[List.findIdx?_eq_some_iff_getElem]
  refine⟨hk,?_,fun j hj => ?_⟩
  ·rwa [List.getD_eq_getElem?_getD,List.getElem?_eq_getElem hk]at h
  ·have:=hn j hj
   rw[List.getD_eq_getElem?_getD,List.getElem?_eq_getElem (by omega)]at this
   simpa using this
 rw[e]
theorem idxP_no {t:Pd→Bool} {ds:List Pd} (hn:∀m,m<ds.length→t (ds.getD m pdD)=false):idxP t ds = -1:=by
 unfold idxP
 have e:ds.findIdx? t=none:=by
  rw[List.findIdx?_eq_none_iff]
  intro e he
  obtain⟨i,hi,rfl⟩:=List.getElem_of_mem he
  have:=hn i hi
  rw[List.getD_eq_getElem?_getD,List.getElem?_eq_getElem hi]at this
  simpa using this
 rw[e]
theorem idxP_any (t:Pd→Bool) (ds:List Pd):decide (idxP t ds ≥ 0)=ds.any t:=by
 unfold idxP
 cases e:ds.findIdx? t with
 |none=>
  rw[List.findIdx?_eq_none_iff]at e
  have:ds.any t=false:=by rw[List.any_eq_false];intro x hx;simp[e x hx]
  rw[this];decide
 |some i=>
  rw[List.findIdx?_eq_some_iff_getElem]at e
  obtain⟨hi,h1,_⟩:=e
  have:ds.any t=true:=by rw[List.any_eq_true];exact⟨_,List.getElem_mem hi,h1⟩
  rw[this]
  simp
def upOnly (d:Pd):Bool:=(d.f==6) || d.p
def freeP (d:Pd):Bool:=d.f==6
set_option maxHeartbeats 2000000 in
theorem isUp_any (d:Pd) {ua:Option Addr} {un uc:Nat} (hu:d.u = .slice ua un uc) (w:World) :
    Calls Tryz.prog 174 #[pdv d] w fun e w'=>e = .returned (.bool (upOnly d))∧Below w.heap.size w w':=by
 obtain⟨s,f,c,h,p,m,u,pl⟩:=d
 simp only at hu
 subst hu
 unfold upOnly
 have B0:Below w.heap.size w (w.alloc (pdb ⟨s,f,c,h,p,m,.slice ua un uc,pl⟩)):=(Below.refl _ _).alloc (Nat.le_refl _) _
 have IF:=isFree_any s f c h p m (.slice ua un uc) (w.alloc (pdb ⟨s,f,c,h,p,m,.slice ua un uc,pl⟩))
 have B1:Below w.heap.size w ((w.alloc (pdb ⟨s,f,c,h,p,m,.slice ua un uc,pl⟩)).alloc (cb s f c h p m (.slice ua un uc))):=B0.alloc (by simp) _
 have HB1:Hid _:=B1
 clear B0 B1
 cases e:(f==6)
 ·rw[e]at IF
  go_enter Tryz.func174,Tryz.ntmps174
  go_wp2_with (go_at_call 177;refine IF.mono ?_;clear IF;rintro e w3 ⟨rfl,hw3⟩;rw[hw3];clear hw3 w3)
  go_ret
  exact⟨rfl,HB1.out⟩
 ·rw[e]at IF
  go_enter Tryz.func174,Tryz.ntmps174
  go_wp2_with (go_at_call 177;refine IF.mono ?_;clear IF;rintro e w3 ⟨rfl,hw3⟩;rw[hw3];clear hw3 w3)
  go_ret
  exact⟨rfl,HB1.out⟩
set_option maxHeartbeats 8000000 in
theorem indexUp_any {w:World} {v:Value} {ds:List Pd} (h:PdsAt w v ds) (hs:SlicesP ds) (hl:ds.length≤1048576) :
    Calls Tryz.prog 193 #[v,.func (.func 174) #[] #[]] w fun e w'=>e = .returned (.int .i64 (idxP upOnly ds))∧Below w.heap.size w w':=by
 have HP:Hid _:=h
 obtain⟨a,cap,rfl⟩:=pds_slice h
 obtain⟨_,hlc,hcm⟩:=pds_cap h
 obtain⟨R,hR⟩:∃R,idxP upOnly ds=R:=⟨_,rfl⟩
 rw[hR]
 have HR:Hid _:=hR
 have HS:Hid _:=hs
 clear hR h hs
 go_enter Tryz.func193,Tryz.ntmps193
 go_wp2_with fail
 go_loopw [8] (fun q wr=>∃k:Nat,k≤ds.length∧q = .int .i64 (k:Int)∧(∀m,m<k→upOnly (ds.getD m pdD)=false)∧Below w.heap.size w wr) (fun q _=>ds.length-(intOf q).toNat)
 case atStart=>exact⟨0,Nat.zero_le _,rfl,fun m hm=>by omega,Below.refl _ _⟩
 case round=>
  obtain⟨k,hk,rfl,hne,Br⟩:=hrel
  have HNE:Hid _:=hne
  have HB:Hid _:=Br
  clear hne Br
  by_cases hlt:k<ds.length
  ·obtain⟨b,off,ea,hbl,k0,k1,k2,k3,k4,k5,k6,k7⟩:=pds_cell (pdsAt_below HP.out HB.out) hlt
   subst ea
   obtain⟨ua,un,uc,hu⟩:=HS.out (ds.getD k pdD) (by rw[List.getD_eq_getElem?_getD,List.getElem?_eq_getElem hlt];exact List.getElem_mem hlt)
   obtain⟨x,hx⟩:∃x,ds.getD k pdD=x:=⟨_,rfl⟩
   have HF1:Hid (upOnly x=false→∀m,m<k+1→upOnly (ds.getD m pdD)=false):=fun e m hm=>by
    by_cases e':m=k
    ·rw[e',hx];exact e
    ·exact HNE.out m (by omega)
   have HF2:Hid (upOnly x=true→R=k):=fun e=>HR.out.symm.trans (idxP_at hlt (by rw[hx];exact e) HNE.out)
   rw[hx]at k0 k1 k2 k3 k4 k5 k6 k7 hu
   clear HNE HR hx
   obtain⟨s',f',c',h',p',m',u',pl'⟩:=x
   simp only at k0 k1 k2 k3 k4 k5 k6 k7 hu
   subst hu
   have IS:=isUp_any (⟨s',f',c',h',p',m',.slice ua un uc,pl'⟩:Pd) (ua:=ua) (un:=un) (uc:=uc) rfl wr
   obtain⟨tb,htb⟩:∃tb,upOnly (⟨s',f',c',h',p',m',.slice ua un uc,pl'⟩:Pd)=tb:=⟨_,rfl⟩
   rw[htb]at IS HF1 HF2
   clear htb
   cases tb with
   |true=>
    have HF3:Hid _:=HF2.out rfl
    clear HF1 HF2
    go_wp2_with (go_at_call 174;refine IS.mono ?_;clear IS;rintro e w3 ⟨rfl,b3⟩;have HB3:Hid _:=HB.out.trans (b3.mono HB.out.size);clear b3)
    go_ret
    exact⟨by rw[HF3.out];rfl,HB3⟩
   |false=>
    have HF3:Hid _:=HF1.out rfl
    clear HF1 HF2
    go_wp2_with (go_at_call 174;refine IS.mono ?_;clear IS;rintro e w3 ⟨rfl,b3⟩;have HB3:Hid _:=HB.out.trans (b3.mono HB.out.size);clear b3)
    exact⟨⟨k+1,by omega,by go_num,HF3,HB3⟩,by simp[intOf];omega⟩
  ·have HF3:Hid (R = -1):=HR.out.symm.trans (idxP_no (fun m hm=>HNE.out m (by omega)))
   clear HNE HR
   go_wp2
   go_ret
   exact⟨by rw[HF3.out];rfl,HB⟩
theorem containsUp_any {w:World} {v:Value} {ds:List Pd} (h:PdsAt w v ds) (hs:SlicesP ds) (hl:ds.length≤1048576) :
    Calls Tryz.prog 173 #[v,.func (.func 174) #[] #[]] w fun e w'=>e = .returned (.bool (ds.any upOnly))∧Below w.heap.size w w':=by
 have IX:=indexUp_any h hs hl
 obtain⟨a,cap,rfl⟩:=pds_slice h
 rw[←idxP_any]
 generalize idxP upOnly ds=R at *
 clear h hs
 go_enter Tryz.func173,Tryz.ntmps173
 go_wp2_with (go_at_call 193;refine IX.mono ?_;clear IX;rintro e w3 ⟨rfl,b3⟩;have HB3:Hid _:=b3;clear b3)
 go_ret
 exact⟨rfl,HB3.out⟩
set_option maxHeartbeats 2000000 in
theorem allZero_any {w:World} {v:Value} {xs:List Int} (h:IntsAt w v xs) (hl:xs.length≤1048576) :
    Calls Tryz.prog 175 #[v] w fun e w'=>e = .returned (.bool (xs.all (· == 0)))∧w'=w:=by
 have HI:Hid _:=h
 obtain⟨a,cap,rfl,hlc,hcm,_,hc⟩:=h
 obtain⟨R,hR⟩:∃R,xs.all (· == 0)=R:=⟨_,rfl⟩
 rw[hR]
 have HR:Hid _:=hR
 clear hR hc
 go_enter Tryz.func175,Tryz.ntmps175
 go_wp2_with fail
 go_loopw [7] (fun q wr=>∃k:Nat,k≤xs.length∧q = .int .i64 (k:Int)∧(∀m,m<k→(xs.getD m 0==0)=true)∧wr=w) (fun q _=>xs.length-(intOf q).toNat)
 case atStart=>exact⟨0,Nat.zero_le _,rfl,fun m hm=>by omega,rfl⟩
 case round=>
  obtain⟨k,hk,rfl,hall,hw⟩:=hrel
  subst hw
  by_cases hlt:k<xs.length
  ·obtain⟨b,off,ea,_,x0⟩:=ints_cellI HI.out hlt
   subst ea
   obtain⟨y,hy⟩:∃y,xs.getD k 0=y:=⟨_,rfl⟩
   rw[hy]at x0
   have HF:Hid ((y==0)=false→R=false):=fun e=>by
    rw[←HR.out,List.all_eq_false]
    refine⟨y,?_,by rw[e];decide⟩
    rw[←hy,List.getD_eq_getElem?_getD,List.getElem?_eq_getElem hlt];exact List.getElem_mem hlt
   have HV:Hid ((y==0)=true→∀m,m<k+1→(xs.getD m 0==0)=true):=fun e m hm=>by
    by_cases e':m=k
    ·rw[e',hy];exact e
    ·exact hall m (by omega)
   clear hall hy HR
   cases dy:(y==0)
   ·have HF2:Hid _:=HF.out dy
    have d2:(y != 0)=true:=by simp[bne,dy]
    clear HF HV dy
    go_wp2
    go_ret
    exact⟨by rw[HF2.out];rfl,rfl⟩
   ·have HV2:Hid _:=HV.out dy
    have d2:(y != 0)=false:=by simp[bne,dy]
    clear HF HV dy
    go_wp2
    exact⟨⟨k+1,by omega,by go_num,HV2,by trivial⟩,by simp[intOf];omega⟩
  ·have HF2:Hid (R=true):=by
     show R=true
     rw[←HR.out,List.all_eq_true]
     intro x hx
     obtain⟨i,hi,rfl⟩:=List.getElem_of_mem hx
     have:=hall i (by omega)
     rwa [List.getD_eq_getElem?_getD,List.getElem?_eq_getElem hi]at this
   clear hall HR
   go_wp2
   go_ret
   exact⟨by rw[HF2.out];rfl,rfl⟩
theorem meth_free (s f c h:Int) (p m:Bool) (ua:Option Addr) (un uc:Nat) (pl:Int) (w:World):(method 376 197 (pdv ⟨s,f,c,h,p,m,.slice ua un uc,pl⟩) "loop.example/g00337/impl.isFree").run Tryz.prog w = .ok (177,cv s f c h p m (.slice ua un uc)) w:=rfl
theorem cellsP_set:∀(ds:List Pd) (i:Nat) (d:Pd),(((((((((cellsP ds).set (i*8) (.int .i64 d.s)).set (i*8+1) (.int .i64 d.f)).set (i*8+2) (.int .i64 d.c)).set (i*8+3) (.int .i64 d.h)).set (i*8+4) (.bool d.p)).set (i*8+5) (.bool d.m)).set (i*8+6) d.u).set (i*8+7) (.int .i64 d.pl))=cellsP (ds.set i d)
 | [],i,d=>by simp[cellsP]
 |e :: ds,0,d=>by simp[cellsP]
 |e :: ds,i+1,d=>by
  rw[show (i+1)*8=i*8+1+1+1+1+1+1+1+1 by omega]
  simp[cellsP,←cellsP_set ds i d]
theorem isFreeP_any (d:Pd) {ua:Option Addr} {un uc:Nat} (hu:d.u = .slice ua un uc) (w:World) :
    Calls Tryz.prog 177 #[cv d.s d.f d.c d.h d.p d.m d.u] w fun e w'=>e = .returned (.bool (freeP d))∧Below w.heap.size w w':=
 (isFree_any d.s d.f d.c d.h d.p d.m d.u w).mono fun e w' ⟨he,hw⟩=>⟨he,by rw[hw];exact (Below.refl _ _).alloc (Nat.le_refl _) _⟩
set_option maxHeartbeats 8000000 in
theorem indexFree_any {w:World} {v:Value} {ds:List Pd} (h:PdsAt w v ds) (hs:SlicesP ds) (hl:ds.length≤1048576) :
    Calls Tryz.prog 193 #[v,.func (.methodOf 197 "loop.example/g00337/impl.isFree") #[] #[]] w fun e w'=>e = .returned (.int .i64 (idxP freeP ds))∧Below w.heap.size w w':=by
 have HP:Hid _:=h
 obtain⟨a,cap,rfl⟩:=pds_slice h
 obtain⟨_,hlc,hcm⟩:=pds_cap h
 obtain⟨R,hR⟩:∃R,idxP freeP ds=R:=⟨_,rfl⟩
 rw[hR]
 have HR:Hid _:=hR
 have HS:Hid _:=hs
 clear hR h hs
 go_enter Tryz.func193,Tryz.ntmps193
 go_wp2_with fail
 go_loopw [8] (fun q wr=>∃k:Nat,k≤ds.length∧q = .int .i64 (k:Int)∧(∀m,m<k→freeP (ds.getD m pdD)=false)∧Below w.heap.size w wr) (fun q _=>ds.length-(intOf q).toNat)
 case atStart=>exact⟨0,Nat.zero_le _,rfl,fun m hm=>by omega,Below.refl _ _⟩
 case round=>
  obtain⟨k,hk,rfl,hne,Br⟩:=hrel
  have HNE:Hid _:=hne
  have HB:Hid _:=Br
  clear hne Br
  by_cases hlt:k<ds.length
  ·obtain⟨b,off,ea,hbl,k0,k1,k2,k3,k4,k5,k6,k7⟩:=pds_cell (pdsAt_below HP.out HB.out) hlt
   subst ea
   obtain⟨ua,un,uc,hu⟩:=HS.out (ds.getD k pdD) (by rw[List.getD_eq_getElem?_getD,List.getElem?_eq_getElem hlt];exact List.getElem_mem hlt)
   obtain⟨x,hx⟩:∃x,ds.getD k pdD=x:=⟨_,rfl⟩
   have HF1:Hid (freeP x=false→∀m,m<k+1→freeP (ds.getD m pdD)=false):=fun e m hm=>by
    by_cases e':m=k
    ·rw[e',hx];exact e
    ·exact HNE.out m (by omega)
   have HF2:Hid (freeP x=true→R=k):=fun e=>HR.out.symm.trans (idxP_at hlt (by rw[hx];exact e) HNE.out)
   rw[hx]at k0 k1 k2 k3 k4 k5 k6 k7 hu
   clear HNE HR hx
   obtain⟨s',f',c',h',p',m',u',pl'⟩:=x
   simp only at k0 k1 k2 k3 k4 k5 k6 k7 hu
   subst hu
   have IS:=isFreeP_any (⟨s',f',c',h',p',m',.slice ua un uc,pl'⟩:Pd) (ua:=ua) (un:=un) (uc:=uc) rfl wr
   have MF:=meth_free s' f' c' h' p' m' ua un uc pl' wr
   obtain⟨tb,htb⟩:∃tb,freeP (⟨s',f',c',h',p',m',.slice ua un uc,pl'⟩:Pd)=tb:=⟨_,rfl⟩
   rw[htb]at IS HF1 HF2
   clear htb
   cases tb with
   |true=>
    have HF3:Hid _:=HF2.out rfl
    clear HF1 HF2
    go_wp2_with (go_at_call 177;refine IS.mono ?_;clear IS;rintro e w3 ⟨rfl,b3⟩;have HB3:Hid _:=HB.out.trans (b3.mono HB.out.size);clear b3)
    go_ret
    exact⟨by rw[HF3.out];rfl,HB3⟩
   |false=>
    have HF3:Hid _:=HF1.out rfl
    clear HF1 HF2
    go_wp2_with (go_at_call 177;refine IS.mono ?_;clear IS;rintro e w3 ⟨rfl,b3⟩;have HB3:Hid _:=HB.out.trans (b3.mono HB.out.size);clear b3)
    exact⟨⟨k+1,by omega,by go_num,HF3,HB3⟩,by simp[intOf];omega⟩
  ·have HF3:Hid (R = -1):=HR.out.symm.trans (idxP_no (fun m hm=>HNE.out m (by omega)))
   clear HNE HR
   go_wp2
   go_ret
   exact⟨by rw[HF3.out];rfl,HB⟩
end Go.Proofs.YtkiognecebgaiaaGreatDoor.hp
namespace Go.Proofs.YtkiognecebgaiaaGreatDoor.walks
open Go.RowKit rows heads words
set_option maxRecDepth 100000
theorem grown_join {a b c:World} {r:Option Nat} (h:a.grownBy b r) (k:b.grownBy c r):a.grownBy c r:=
 ⟨k.os.trans h.os,k.tape.trans h.tape,k.output.trans h.output,Nat.le_trans h.size k.size,fun j hj hn=>(k.block j (Nat.lt_of_lt_of_le hj h.size) hn).trans (h.block j hj hn)⟩
theorem app_int {w w1:World} {base:Nat} {v v':Value} {o:Obj} {xs:List Int} {x:Int} (hown:w1.ownsRow base 2 1 v' (xs.length+1) (cellsOf xs++[.int .i64 x])) (hgrow:(w.alloc o).grownBy w1 v.ownBlock) (hat:v'.ownBlock=v.ownBlock∨v'.ownBlock=some (w.alloc o).heap.size) :
    rows.Own w1 base v' (xs++[x])∧w.grownBy w1 v.ownBlock∧∀k,v'.ownBlock=some k→v.ownBlock=some k∨w.heap.size<k:=
 ⟨own_snoc hown,grown_join (World.grownBy_alloc w o _) hgrow,fun k e=>by
  rcases hat with h|h
  ·exact .inl (h▸e)
  ·right;rw[h]at e;injection e with e;simp at e;omega⟩
theorem one_int (w:World) (x:Int):∀i u,[Value.int .i64 x][i]? = some u→(w.alloc (.cells #[.int .i64 x] 2)).cell? ((⟨w.heap.size,0,none⟩:Addr).add i)=some u:=by
 intro j u hj
 match j,hj with
 |0,hj=>simp at hj;subst hj;simp[Addr.add]
end Go.Proofs.YtkiognecebgaiaaGreatDoor.walks
