/- Chapter 8 as the program has it: a free  -/
import Derived.Test.YtocidankimefpaaGreatDoorM10
import Derived.Test.YtocidankimefpaaGreatDoorM7
set_option linter.unusedSimpArgs false
set_option linter.unusedVariables false
set_option maxRecDepth 100000
namespace Go.Proofs.YtocidankimefpaaGreatDoor.walks
open Go.RowKit rows heads words
end Go.Proofs.YtocidankimefpaaGreatDoor.walks
namespace Go.Proofs.YtocidankimefpaaGreatDoor.hp
open Go.RowKit rows heads words walks
def evn (lo hi x:Int):Bool:=inR lo hi x&&decide (x % 2=0)
def hp0:Hp:=⟨0,0,[],0,0,[],[],[],0⟩
theorem gI {lo hi x:Int} (h:inR lo hi x=true):lo≤x∧x≤hi:=by simpa [inR] using h
theorem jO {lo hi x:Int} (h:inR lo hi x=false):¬(lo≤x∧x≤hi):=by simpa [inR] using h
theorem pF {lo hi x:Int} (h:evn lo hi x=true):lo≤x∧x≤hi∧x % 2=0:=by
 simp only[evn,Bool.and_eq_true,decide_eq_true_eq]at h;exact⟨(gI h.1).1,(gI h.1).2,h.2⟩
set_option maxHeartbeats 2000000 in
theorem lu (x lo hi:Int) (hlo:0≤lo) (w:World) :
    Calls Tryz.prog 180 #[.int .i64 x,.int .i64 lo,.int .i64 hi] w fun e w'=>e = .returned (.bool (evn lo hi x))∧w'=w:=by
 by_cases h1:lo≤x
 ·by_cases h2:x≤hi
  ·by_cases h3:x % 2=0
   ·have e:evn lo hi x=true:=by simp[evn,inR,h1,h2,h3]
    rw[e];have m1:(x.tmod 2==0)=true:=by rw[Int.tmod_eq_emod_of_nonneg (by omega),h3];rfl
    have m2:(x % 2==0)=true:=by rw[h3];rfl
    clear e h3;go_enter Tryz.func180,Tryz.ntmps180;go_wp2;go_ret;exact⟨rfl,rfl⟩
   ·have h3':x % 2=1:=by omega
    have e:evn lo hi x=false:=by simp[evn,inR,h1,h2,h3']
    rw[e];have m1:(x.tmod 2==0)=false:=by rw[Int.tmod_eq_emod_of_nonneg (by omega),h3'];rfl
    have m2:(x % 2==0)=false:=by rw[h3'];rfl
    clear e h3 h3';go_enter Tryz.func180,Tryz.ntmps180;go_wp2;go_ret;exact⟨rfl,rfl⟩
  ·have e:evn lo hi x=false:=by simp[evn,inR,h2]
   rw[e];clear e;go_enter Tryz.func180,Tryz.ntmps180;go_wp2;go_ret;exact⟨rfl,rfl⟩
 ·have e:evn lo hi x=false:=by simp[evn,inR,h1]
  rw[e];clear e;go_enter Tryz.func180,Tryz.ntmps180;go_wp2;go_ret;exact⟨rfl,rfl⟩
theorem jr (x y:Int) (w:World) :
    Calls Tryz.prog 150 #[.int .i64 x,.int .i64 y] w fun e w'=>e = .returned (.bool (evn 8 200 x&&evn 8 400 y))∧w'=w:=by
 have E1:=lu x 8 200 (by decide);have E2:=lu y 8 400 (by decide);cases d:evn 8 200 x
 ·rw[d]at E1;go_enter Tryz.func150,Tryz.ntmps150;go_wp2_with (go_at_call 180;refine (E1 _).mono ?_;clear E1;rintro e w3 ⟨rfl,hw3⟩;rw[hw3];clear hw3 w3);go_ret;exact⟨rfl,rfl⟩
 ·rw[d]at E1;go_enter Tryz.func150,Tryz.ntmps150
  go_wp2_with (first
   |(have hh:=E1;clear hh;go_at_call 180;refine (E1 _).mono ?_;clear E1;rintro e w3 ⟨rfl,hw3⟩;rw[hw3];clear hw3 w3)
   |(have hh:=E2;clear hh;go_at_call 180;refine (E2 _).mono ?_;clear E2;rintro e w3 ⟨rfl,hw3⟩;rw[hw3];clear hw3 w3))
  go_ret;exact⟨rfl,rfl⟩
theorem ud (X Y L:Nat) (hL:2*X+Y=L) (hm:L≤1048576) (w:World) :
    Calls Tryz.prog 81 #[.int .i64 (X:Int),.int .i64 (Y:Int)] w fun e w'=>e = .returned (.int .i64 (L:Int))∧w'=w:=by
 have b1:X≤1048576:=by omega
 have b2:Y≤1048576:=by omega
 have HL:Hid _:=hL;clear hL;go_enter Tryz.func81,Tryz.ntmps81;go_wp2;go_ret;exact⟨by rw[←HL.out];go_num,rfl⟩
structure Pd where
 s:Int
 f:Int
 c:Int
 h:Int
 p:Bool
 m:Bool
 u:Value
 pl:Int
abbrev pdv (d:Pd):Value:=.agg #[(.int .i64 d.s),(.int .i64 d.f),(.int .i64 d.c),(.int .i64 d.h),(.bool d.p),(.bool d.m),d.u,(.int .i64 d.pl)]
abbrev pdb (d:Pd):Obj:=.cells #[(.int .i64 d.s),(.int .i64 d.f),(.int .i64 d.c),(.int .i64 d.h),(.bool d.p),(.bool d.m),d.u,(.int .i64 d.pl)] 58
abbrev pdD:Pd:=⟨0,0,0,0,false,false,.slice none 0 0,0⟩
def iP (a:Option Addr) (xs:List Int) (k:Nat):Pd:=⟨uS (xs.getD k 0),uF (xs.getD k 0),uC (xs.getD k 0),uH (xs.getD k 0),uP (xs.getD k 0),uM (xs.getD k 0),piece a k (chunk xs k).toNat,k⟩
def cellsP:List Pd→List Value
 | []=>[]
 |d :: ds=>(.int .i64 d.s) :: (.int .i64 d.f) :: (.int .i64 d.c) :: (.int .i64 d.h) :: (.bool d.p) :: (.bool d.m) :: d.u :: (.int .i64 d.pl) :: cellsP ds
theorem fE:∀ds:List Pd,(cellsP ds).length=ds.length*8
 | []=>rfl
 |_ :: ds=>by simp[cellsP,fE ds];omega
theorem fF:∀ds es:List Pd,cellsP (ds++es)=cellsP ds++cellsP es
 | [],_=>rfl
 |_ :: ds,es=>by simp[cellsP,fF ds es]
theorem ru:∀(ds:List Pd) (i:Nat),i<ds.length→(cellsP ds)[i*8]? = some (.int .i64 (ds.getD i pdD).s)∧(cellsP ds)[i*8+1]? = some (.int .i64 (ds.getD i pdD).f)∧(cellsP ds)[i*8+2]? = some (.int .i64 (ds.getD i pdD).c)∧(cellsP ds)[i*8+3]? = some (.int .i64 (ds.getD i pdD).h)∧(cellsP ds)[i*8+4]? = some (.bool (ds.getD i pdD).p)∧(cellsP ds)[i*8+5]? = some (.bool (ds.getD i pdD).m)∧(cellsP ds)[i*8+6]? = some ((ds.getD i pdD).u)∧(cellsP ds)[i*8+7]? = some (.int .i64 (ds.getD i pdD).pl)
 | [],_,h=>by simp at h
 |e :: ds,0,_=>by simp[cellsP]
 |e :: ds,i+1,h=>by
  have:=ru ds i (by simpa using h)
  rw[show (i+1)*8=i*8+1+1+1+1+1+1+1+1 by omega];simpa [cellsP] using this
def ck (ds:List Pd):Prop:=∀d ∈ ds,∃a n c,d.u = .slice a n c
theorem kQ:∀ {ds:List Pd},ck ds→∀v ∈ cellsP ds,v.oneCell'=true
 | [],_,v,h=>by simp[cellsP]at h
 |d :: ds,hs,v,h=>by
  simp only[cellsP,List.mem_cons]at h;rcases h with rfl|rfl|rfl|rfl|rfl|rfl|rfl|rfl|h
  ·rfl
  ·rfl
  ·rfl
  ·rfl
  ·rfl
  ·rfl
  ·obtain⟨a,n,c,e⟩:=hs d (List.mem_cons_self ..);rw[e];rfl
  ·rfl
  ·exact kQ (fun d' hd=>hs d' (List.mem_cons_of_mem _ hd)) v h
def eF (w:World) (v:Value) (ds:List Pd):Prop:=
 ∃a cap,v = .slice a ds.length cap∧ds.length≤cap∧cap≤maxLen∧(a=none→cap=0) ∧
  (0<ds.length→∃b off,a=some ⟨b,off,none⟩∧b<w.heap.size∧∀i,i<ds.length→w.cell? ⟨b,off+i*8,none⟩=some (.int .i64 (ds.getD i pdD).s)∧w.cell? ⟨b,off+i*8+1,none⟩=some (.int .i64 (ds.getD i pdD).f)∧w.cell? ⟨b,off+i*8+2,none⟩=some (.int .i64 (ds.getD i pdD).c)∧w.cell? ⟨b,off+i*8+3,none⟩=some (.int .i64 (ds.getD i pdD).h)∧w.cell? ⟨b,off+i*8+4,none⟩=some (.bool (ds.getD i pdD).p)∧w.cell? ⟨b,off+i*8+5,none⟩=some (.bool (ds.getD i pdD).m)∧w.cell? ⟨b,off+i*8+6,none⟩=some ((ds.getD i pdD).u)∧w.cell? ⟨b,off+i*8+7,none⟩=some (.int .i64 (ds.getD i pdD).pl))
theorem aT {w w':World} {v:Value} {ds:List Pd} (h:eF w v ds) (hb:Below w.heap.size w w'):eF w' v ds:=by
 obtain⟨a,cap,rfl,h1,h2,h4,h3⟩:=h;refine⟨a,cap,rfl,h1,h2,h4,fun hp => ?_⟩
 obtain⟨b,off,rfl,hlt,hc⟩:=h3 hp;refine⟨b,off,rfl,Nat.lt_of_lt_of_le hlt hb.size,fun i hi => ?_⟩
 obtain⟨k0,k1,k2,k3,k4,k5,k6,k7⟩:=hc i hi;exact⟨(hb.cell (p:=⟨b,_,none⟩) hlt).trans k0,(hb.cell (p:=⟨b,_,none⟩) hlt).trans k1,(hb.cell (p:=⟨b,_,none⟩) hlt).trans k2,(hb.cell (p:=⟨b,_,none⟩) hlt).trans k3,(hb.cell (p:=⟨b,_,none⟩) hlt).trans k4,(hb.cell (p:=⟨b,_,none⟩) hlt).trans k5,(hb.cell (p:=⟨b,_,none⟩) hlt).trans k6,(hb.cell (p:=⟨b,_,none⟩) hlt).trans k7⟩
def fg (w:World) (base:Nat) (v:Value) (ds:List Pd):Prop:=w.ownsRow base 58 8 v ds.length (cellsP ds)
theorem cg {w w':World} {base:Nat} {v:Value} {ds:List Pd} (h:fg w base v ds) (hb:Below w.heap.size w w'):fg w' base v ds:=aE (S:=[]) h (bu hb) (by simp)
theorem mP {w:World} {base base':Nat} {v:Value} {ds:List Pd} (h:fg w base v ds) (hb:base'≤base):fg w base' v ds:=by
 obtain⟨h0,⟨h1,h2⟩|⟨g,cap,cur,h1,hg,hh⟩⟩:=h
 ·exact⟨h0,.inl ⟨h1,h2⟩⟩
 ·exact⟨h0,.inr ⟨g,cap,cur,h1,Nat.le_trans hb hg,hh⟩⟩
theorem bx {w:World} {base:Nat} {v:Value} {ds:List Pd} (h:fg w base v ds):eF w v ds:=by
 have h':=h;obtain⟨_,⟨rfl,hn⟩|⟨g,cap,cur,rfl,hg,hh,hle,hm,hs,ht⟩⟩:=h
 ·have:ds=[]:=by simpa using hn
  subst this;exact⟨none,0,rfl,by simp,by decide,fun _=>rfl,fun hp=>absurd hp (by simp)⟩
 ·refine⟨_,cap,rfl,hle,hm,fun h=>(by cases h),fun hp=>⟨g,0,rfl,lt_of_block hh,fun i hi => ?_⟩⟩
  obtain⟨k0,k1,k2,k3,k4,k5,k6,k7⟩:=ru ds i hi;have cl:∀j,j<ds.length*8→w.cell? ⟨g,0+j,none⟩=(cellsP ds)[j]? := fun j hj=>by rw[Nat.zero_add];exact World.ownsRow.cellAt h' j (by omega)
  refine⟨(show w.cell? ⟨g,0+i*8,none⟩=_ from (cl (i*8) (by omega)).trans k0),(show w.cell? ⟨g,0+i*8+1,none⟩=_ from by rw[Nat.add_assoc];exact (cl (i*8+1) (by omega)).trans k1),(show w.cell? ⟨g,0+i*8+2,none⟩=_ from by rw[Nat.add_assoc];exact (cl (i*8+2) (by omega)).trans k2),(show w.cell? ⟨g,0+i*8+3,none⟩=_ from by rw[Nat.add_assoc];exact (cl (i*8+3) (by omega)).trans k3),(show w.cell? ⟨g,0+i*8+4,none⟩=_ from by rw[Nat.add_assoc];exact (cl (i*8+4) (by omega)).trans k4),(show w.cell? ⟨g,0+i*8+5,none⟩=_ from by rw[Nat.add_assoc];exact (cl (i*8+5) (by omega)).trans k5),(show w.cell? ⟨g,0+i*8+6,none⟩=_ from by rw[Nat.add_assoc];exact (cl (i*8+6) (by omega)).trans k6),(show w.cell? ⟨g,0+i*8+7,none⟩=_ from by rw[Nat.add_assoc];exact (cl (i*8+7) (by omega)).trans k7)⟩
theorem aQ {w:World} {v:Value} {ds:List Pd} (h:eF w v ds):∃a c,v = .slice a ds.length c:=by
 obtain⟨a,c,e,_⟩:=h;exact⟨a,c,e⟩
theorem iB {w:World} {a:Option Addr} {n cap:Nat} {ds:List Pd} (h:eF w (.slice a n cap) ds) {i:Nat} (hi:i<ds.length):∃b off,a=some ⟨b,off,none⟩∧b<w.heap.size∧w.cell? ⟨b,off+i*8,none⟩=some (.int .i64 (ds.getD i pdD).s)∧w.cell? ⟨b,off+i*8+1,none⟩=some (.int .i64 (ds.getD i pdD).f)∧w.cell? ⟨b,off+i*8+2,none⟩=some (.int .i64 (ds.getD i pdD).c)∧w.cell? ⟨b,off+i*8+3,none⟩=some (.int .i64 (ds.getD i pdD).h)∧w.cell? ⟨b,off+i*8+4,none⟩=some (.bool (ds.getD i pdD).p)∧w.cell? ⟨b,off+i*8+5,none⟩=some (.bool (ds.getD i pdD).m)∧w.cell? ⟨b,off+i*8+6,none⟩=some ((ds.getD i pdD).u)∧w.cell? ⟨b,off+i*8+7,none⟩=some (.int .i64 (ds.getD i pdD).pl):=by
 obtain⟨a',c',e,_,_,_,hc⟩:=h;injection e with e1 e2 e3
 subst e1;obtain⟨b,off,rfl,hb,hcc⟩:=hc (by omega);exact⟨b,off,rfl,hb,hcc i hi⟩
theorem ye {w:World} {a:Option Addr} {n cap:Nat} {ds:List Pd} (h:eF w (.slice a n cap) ds):n=ds.length∧n≤cap∧cap≤9223372036854775807:=by
 obtain⟨a',c',e,h1,h2,_,_⟩:=h;injection e with e1 e2 e3
 subst e3;exact⟨e2,by omega,h2⟩
theorem zh {w:World} {ad:Addr} {n cap:Nat} {ds:List Pd} (h:eF w (.slice (some ad) n cap) ds):∀j v,(cellsP ds)[j]? = some v→w.cell? (ad.add j)=some v:=by
 intro j v hj;have hl:j<(cellsP ds).length:=(List.getElem?_eq_some_iff.1 hj).1;rw[fE]at hl;obtain⟨i,hi⟩:∃i,j / 8=i:=⟨_,rfl⟩
 have hd:i<ds.length:=by omega
 obtain⟨b,off,e,_,k0,k1,k2,k3,k4,k5,k6,k7⟩:=iB h hd;injection e with e
 subst e;obtain⟨q0,q1,q2,q3,q4,q5,q6,q7⟩:=ru ds i hd;have e2:(⟨b,off,none⟩:Addr).add j=⟨b,off+j,none⟩:=by cases j<;>simp[Addr.add]
 rw[e2];rcases (show j=i*8∨j=i*8+1∨j=i*8+2∨j=i*8+3∨j=i*8+4∨j=i*8+5∨j=i*8+6∨j=i*8+7 by omega) with e|e|e|e|e|e|e|e
 ·rw[e]at hj;rw[q0]at hj;cases hj
  rw[e];exact k0
 ·rw[e]at hj;rw[q1]at hj;cases hj
  rw[e,←Nat.add_assoc];exact k1
 ·rw[e]at hj;rw[q2]at hj;cases hj
  rw[e,←Nat.add_assoc];exact k2
 ·rw[e]at hj;rw[q3]at hj;cases hj
  rw[e,←Nat.add_assoc];exact k3
 ·rw[e]at hj;rw[q4]at hj;cases hj
  rw[e,←Nat.add_assoc];exact k4
 ·rw[e]at hj;rw[q5]at hj;cases hj
  rw[e,←Nat.add_assoc];exact k5
 ·rw[e]at hj;rw[q6]at hj;cases hj
  rw[e,←Nat.add_assoc];exact k6
 ·rw[e]at hj;rw[q7]at hj;cases hj
  rw[e,←Nat.add_assoc];exact k7
theorem infoP:(Tryz.prog.info? 58).map (fun i=>(i.zero,i.size,i.bytes))=some (some (pdv pdD),8,72):=by kernel_rfl
end Go.Proofs.YtocidankimefpaaGreatDoor.hp
