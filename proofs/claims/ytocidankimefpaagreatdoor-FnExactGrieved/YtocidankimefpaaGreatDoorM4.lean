/- Chapter 6 as the program has it: what a  -/
import Derived.Test.YtocidankimefpaaGreatDoorM3
import Derived.Lib.Hide
set_option linter.unusedVariables false
set_option maxRecDepth 100000
namespace Go.Proofs.YtocidankimefpaaGreatDoor.gr
open Go.RowKit rows heads
theorem rH (n:Int) (w:World) :
    Calls Tryz.prog 149 #[.int .i64 n] w fun e w'=>e = .returned (.bool (inR (-100000) 100000 n))∧w'=w:=by
 unfold inR;by_cases h1:(-100000:Int)≤n
 ·by_cases h2:n≤100000
  ·go_enter Tryz.func149,Tryz.ntmps149;go_wp2;go_ret;exact⟨by simp;omega,rfl⟩
  ·go_enter Tryz.func149,Tryz.ntmps149;go_wp2;go_ret;exact⟨by simp;omega,rfl⟩
 ·go_enter Tryz.func149,Tryz.ntmps149;go_wp2;go_ret;exact⟨by simp;omega,rfl⟩
def shv (r:Rf):Value:=if r.1=0∧r.2=0 then .iface 192 (.agg #[]) else if (r.1==1&&inR (-100000) 100000 r.2)=true then .iface 194 (.agg #[.int .i64 r.2]) else if r.1=2 then .iface 160 (.agg #[.int .i64 r.2]) else .nilIface
set_option maxHeartbeats 1000000 in
theorem wN (r:Rf) (w:World) :
    Calls Tryz.prog 107 #[rv r] w fun e w'=>e = .returned (shv r)∧Below w.heap.size w w':=by
 obtain⟨k,n⟩:=r;have B:Below w.heap.size w (w.alloc (rb (k,n))):=(Below.refl _ w).alloc (Nat.le_refl _) _;have HB:Hid _:=B;clear B;have I:=rH n;by_cases k0:k=0
 ·subst k0;by_cases n0:n=0
  ·subst n0;clear I;go_enter Tryz.func107,Tryz.ntmps107;go_wp2;go_ret;exact⟨by simp[shv],HB⟩
  ·have n0':(n==0)=false:=by simpa using n0
   clear I;go_enter Tryz.func107,Tryz.ntmps107;go_wp2;go_ret;exact⟨by simp[shv,n0],HB⟩
 ·have k0':(k==0)=false:=by simpa using k0
  by_cases k1:k=1
  ·subst k1;have es:shv (1,n)=if inR (-100000) 100000 n=true then .iface 194 (.agg #[.int .i64 n]) else .nilIface:=by simp[shv]
   rw[es];cases d:inR (-100000) 100000 n
   ·rw[d]at I;go_enter Tryz.func107,Tryz.ntmps107;go_wp2_with (go_at_call 149;refine (I _).mono ?_;rintro e w1 ⟨rfl,rfl⟩);go_ret;exact⟨by simp,HB⟩
   ·rw[d]at I;go_enter Tryz.func107,Tryz.ntmps107;go_wp2_with (go_at_call 149;refine (I _).mono ?_;rintro e w1 ⟨rfl,rfl⟩);go_ret;exact⟨by simp,HB⟩
  ·have k1':(k==1)=false:=by simpa using k1
   clear I;by_cases k2:k=2
   ·subst k2;go_enter Tryz.func107,Tryz.ntmps107;go_wp2;go_ret;exact⟨by simp[shv],HB⟩
   ·have k2':(k==2)=false:=by simpa using k2
    go_enter Tryz.func107,Tryz.ntmps107;go_wp2;go_ret;exact⟨by simp[shv,k0,k1,k2],HB⟩
theorem AY (r:Rf):(r=(0,0)∧shv r = .iface 192 (.agg #[]))∨(r.1=1∧inR (-100000) 100000 r.2=true∧shv r = .iface 194 (.agg #[.int .i64 r.2]))∨(r.1=2∧shv r = .iface 160 (.agg #[.int .i64 r.2]))∨(¬r.1=2∧¬(r.1=0∧r.2=0)∧¬(r.1=1∧inR (-100000) 100000 r.2=true)∧shv r = .nilIface):=by
 obtain⟨k,n⟩:=r;unfold shv;by_cases h0:k=0∧n=0
 ·exact .inl ⟨by rw[h0.1,h0.2],by simp[h0]⟩
 ·by_cases h1:k=1∧inR (-100000) 100000 n=true
  ·exact .inr (.inl ⟨h1.1,h1.2,by simp[h1.1,h1.2]⟩)
  ·by_cases h2:k=2
   ·exact .inr (.inr (.inl ⟨h2,by simp[h2]⟩))
   ·refine .inr (.inr (.inr ⟨h2,h0,h1,?_⟩))
    have h1':(k==1&&inR (-100000) 100000 n)=false:=by
     cases e:(k==1&&inR (-100000) 100000 n)
     ·rfl
     ·simp only[Bool.and_eq_true,beq_iff_eq]at e;exact absurd e h1
    simp only[h0,h1',h2,if_false];simp
theorem lM (v:Value) (w:World):(Instr.typeAssert (.iface 192 v) 163 160 true).run Tryz.prog w = .ok (.tuple #[.agg #[.int .i64 0],.bool false]) w:=by kernel_rfl
theorem ng (v:Value) (w:World):(Instr.typeAssert (.iface 194 v) 163 160 true).run Tryz.prog w = .ok (.tuple #[.agg #[.int .i64 0],.bool false]) w:=by kernel_rfl
theorem lN (v:Value) (w:World):(Instr.typeAssert (.iface 160 v) 163 160 true).run Tryz.prog w = .ok (.tuple #[v,.bool true]) w:=by kernel_rfl
theorem rI (w:World):(Instr.typeAssert .nilIface 163 160 true).run Tryz.prog w = .ok (.tuple #[.agg #[.int .i64 0],.bool false]) w:=by kernel_rfl
set_option maxHeartbeats 1000000 in
theorem wO (r:Rf) (w:World) :
    Calls Tryz.prog 54 #[rv r] w fun e w'=>e = .returned (.tuple #[.int .i64 (if r.1=2 then r.2 else 0),.bool (r.1==2)])∧Below w.heap.size w w':=by
 have S:=wN r (w.alloc (rb r));have C:=AY r;obtain⟨k,n⟩:=r;have B:Below w.heap.size w (w.alloc (rb (k,n))):=(Below.refl _ w).alloc (Nat.le_refl _) _;have hsz:w.heap.size≤(w.alloc (rb (k,n))).heap.size:=B.size;have HB:Hid _:=B;clear B;generalize hs:shv (k,n)=sv at *;clear hs;go_enter Tryz.func54,Tryz.ntmps54;go_wp2_with fail;refine S.mono ?_;rintro e w1 ⟨rfl,b1⟩;have B1:=HB.out.trans (b1.mono hsz);have sz1:=B1.size;have HB1:Hid _:=B1;clear S HB b1 B1;rcases C with ⟨c,rfl⟩|⟨c,_,rfl⟩|⟨c,rfl⟩|⟨c,_,_,rfl⟩
 ·injection c with c1 c2
  subst c1 c2;have a1:=lM;go_wp2;refine bodyPost_ret (v:=.tuple #[.int .i64 0,.bool false]) (by simp[results,Tryz.results54,go_sem]) rfl ⟨rfl,?_⟩;exact HB1.out.alloc sz1 _
 ·subst c;have a1:=ng;go_wp2;refine bodyPost_ret (v:=.tuple #[.int .i64 0,.bool false]) (by simp[results,Tryz.results54,go_sem]) rfl ⟨rfl,?_⟩;exact HB1.out.alloc sz1 _
 ·subst c;have a1:=lN;go_wp2;refine bodyPost_ret (v:=.tuple #[.int .i64 n,.bool true]) (by simp[results,Tryz.results54,go_sem]) rfl ⟨rfl,?_⟩;exact HB1.out.alloc sz1 _
 ·have c':(k==2)=false:=by simpa using c
  have a1:=rI;go_wp2;refine bodyPost_ret (v:=.tuple #[.int .i64 0,.bool false]) (by simp[results,Tryz.results54,go_sem]) rfl ⟨by simp,?_⟩;exact HB1.out.alloc sz1 _
def fj (x y:Int):Int:=if x<y then -1 else if y<x then 1 else 0
theorem gR (x:Int) (w:World):Calls Tryz.prog 148 #[.int .i64 x] w fun e w'=>e = .returned (.bool false)∧w'=w:=by
 have hx:(x != x)=false:=by simp
 go_enter Tryz.func148,Tryz.ntmps148;go_wp2;go_ret;exact⟨by simp,rfl⟩
theorem gS (x y:Int) (w:World):Calls Tryz.prog 103 #[.int .i64 x,.int .i64 y] w fun e w'=>e = .returned (.int .i64 (fj x y))∧w'=w:=by
 generalize hc:fj x y=cc;by_cases h1:x<y
 ·have EC:Hid (cc = -1):=by show _=_;rw[←hc];unfold fj;rw[if_pos h1]
  clear hc;go_enter Tryz.func103,Tryz.ntmps103;go_wp2_with (go_at_call 148;refine (gR _ _).mono ?_;rintro e w1 ⟨rfl,rfl⟩);go_ret;exact⟨by rw[EC.out];rfl,rfl⟩
 ·by_cases h2:y<x
  ·have EC:Hid (cc=1):=by show _=_;rw[←hc];unfold fj;rw[if_neg h1,if_pos h2]
   clear hc;go_enter Tryz.func103,Tryz.ntmps103;go_wp2_with (go_at_call 148;refine (gR _ _).mono ?_;rintro e w1 ⟨rfl,rfl⟩);go_ret;exact⟨by rw[EC.out];rfl,rfl⟩
  ·have EC:Hid (cc=0):=by show _=_;rw[←hc];unfold fj;rw[if_neg h1,if_neg h2]
   clear hc;go_enter Tryz.func103,Tryz.ntmps103;go_wp2_with (go_at_call 148;refine (gR _ _).mono ?_;rintro e w1 ⟨rfl,rfl⟩);go_ret;exact⟨by rw[EC.out];rfl,rfl⟩
theorem yA (m:MO) (hs:∃a n c,m.sv = .slice a n c) (id:Int) (w:World):Calls Tryz.prog 109 #[ov m,.int .i64 id] w fun e w'=>e = .returned (.int .i64 (fj m.id id))∧Below w.heap.size w w':=by
 obtain⟨i,c,f,g,sv,sl⟩:=m;obtain⟨a,n,cp,hs⟩:=hs;simp only at hs;subst hs;have B:Below w.heap.size w (w.alloc (ob ⟨i,c,f,g,.slice a n cp,sl⟩)):=(Below.refl _ w).alloc (Nat.le_refl _) _;have HB:Hid _:=B;clear B;have C:=fun w=>gS i id w
 generalize hc:fj i id=cc at *;clear hc;go_enter Tryz.func109,Tryz.ntmps109;go_wp2_with (go_at_call 103;refine (C _).mono ?_;rintro e w1 ⟨rfl,rfl⟩);go_ret;exact⟨rfl,HB⟩
def AZ (ms:List MO) (id:Int) (i:Nat):Prop:=i≤ms.length∧(∀t,t<i→(ms.getD t moD).id<id)∧∀t,i≤t→t<ms.length→id≤(ms.getD t moD).id
def DG (ms:List MO):Prop:=∀i j,i<j→j<ms.length→(ms.getD i moD).id<(ms.getD j moD).id
set_option maxHeartbeats 4000000 in
theorem jc {w:World} {v:Value} {ms:List MO} (h:jC w v ms) (hsl:Slices ms) (hr:DG ms) (hl:ms.length≤1048576) (id:Int) :
    Calls Tryz.prog 108 #[v,.int .i64 id,.func (.func 109) #[] #[]] w fun e w'=>∃i:Nat,AZ ms id i∧e = .returned (.tuple #[.int .i64 i,.bool (decide (i<ms.length)&&decide ((ms.getD i moD).id=id))])∧Below w.heap.size w w':=by
 obtain⟨a,cap,rfl,hlc,hcm,_,hc⟩:=h;have hcm':cap≤9223372036854775807:=hcm;have HC:Hid _:=hc;have HR:Hid _:=hr;have HS:Hid _:=hsl;clear hc hr hsl;go_enter Tryz.func108,Tryz.ntmps108;go_wp2_with fail;go_loopw [9,10] (fun p q wr=>∃lo hi:Nat,p = .int .i64 lo∧q = .int .i64 hi∧lo≤hi∧hi≤ms.length∧(∀t,t<lo→(ms.getD t moD).id<id)∧(∀t,hi≤t→t<ms.length→id≤(ms.getD t moD).id)∧Below w.heap.size w wr) (fun p q _=>(intOf q).toNat-(intOf p).toNat);case atStart=>exact⟨0,ms.length,rfl,rfl,Nat.zero_le _,Nat.le_refl _,fun t ht=>by omega,fun t h1 h2=>by omega,Below.refl _ _⟩
 case round=>
  obtain⟨lo,hi,rfl,rfl,hlh,hhn,hlo,hhi,hB⟩:=hrel;have HLO:Hid _:=hlo;have HHI:Hid _:=hhi;have HB:Hid _:=hB;clear hlo hhi hB;by_cases hlt:lo<hi
  ·have hm1:lo≤(lo+hi) / 2∧(lo+hi) / 2<hi:=by omega
   have ediv:((lo:Int)+(hi:Int)).fdiv (2 ^ min (Int.toNat 1) IntKind.u64.bits)=((lo:Int)+(hi:Int)) / 2:=by
    rw[show (2:Int) ^ min (Int.toNat 1) IntKind.u64.bits=2 by decide,Int.fdiv_eq_ediv_of_nonneg _ (by decide)]
   obtain⟨b,off,rfl,hb,hcc⟩:=HC.out (by omega);obtain⟨x0,x1,x2,x3,x4⟩:=hcc ((lo+hi) / 2) (by omega);have c0:=(HB.out.cell (p:=⟨b,off+((lo+hi) / 2)*5,none⟩) hb).trans x0;have c1:=(HB.out.cell (p:=⟨b,off+((lo+hi) / 2)*5+1,none⟩) hb).trans x1;have c2:=(HB.out.cell (p:=⟨b,off+((lo+hi) / 2)*5+2,none⟩) hb).trans x2;have c3:=(HB.out.cell (p:=⟨b,off+((lo+hi) / 2)*5+3,none⟩) hb).trans x3;have c4:=(HB.out.cell (p:=⟨b,off+((lo+hi) / 2)*5+4,none⟩) hb).trans x4;have A:=yA (ms.getD ((lo+hi) / 2) moD) (HS.out _ (cZ (by omega))) id wr;obtain⟨sa,sn,sc,hsv⟩:=HS.out _ (cZ (show ((lo+hi) / 2)<ms.length by omega))
   have HUP:Hid ((ms.getD ((lo+hi) / 2) moD).id<id→∀t,t<((lo+hi) / 2)+1→(ms.getD t moD).id<id):=fun e t ht=>by
    by_cases e':t=((lo+hi) / 2)
    ·rw[e'];exact e
    ·have:=HR.out t ((lo+hi) / 2) (by omega) (by omega)
     omega
   have HDN:Hid (¬(ms.getD ((lo+hi) / 2) moD).id<id→∀t,((lo+hi) / 2)≤t→t<ms.length→id≤(ms.getD t moD).id):=fun e t h1 h2=>by
    by_cases e':t=((lo+hi) / 2)
    ·rw[e'];omega
    ·have:=HR.out ((lo+hi) / 2) t (by omega) h2
     omega
   clear hcc HC HS HR x0 x1 x2 x3 x4;generalize ms.getD ((lo+hi) / 2) moD=x at *;obtain⟨xi,xc,xf,xh,xv,xs⟩:=x;simp only at hsv HUP HDN;subst hsv;simp only[ov]at A;have hcut:fj xi id<0↔xi<id:=by unfold fj;split<;>(try split)<;>omega
   have HB0:Hid _:=HB.out;have szr:=HB.out.size;by_cases hx:xi<id
   ·have hneg:=hcut.2 hx;have HUP2:Hid _:=HUP.out hx;generalize fj xi id=cc at *;clear HUP HDN HLO hx hcut;go_wp2_with (go_at_call 109;refine A.mono ?_;rintro e w1 ⟨rfl,b1⟩;have HB1:Hid _:=HB0.out.trans (b1.mono szr);clear b1 A HB0 HB);exact⟨⟨((lo+hi) / 2)+1,hi,by go_num,rfl,by omega,hhn,HUP2,HHI,HB1⟩,by simp[intOf];omega⟩
   ·have hneg:¬fj xi id<0:=fun e=>hx (hcut.1 e)
    have HDN2:Hid _:=HDN.out hx;generalize fj xi id=cc at *;clear HUP HDN HHI hx hcut;go_wp2_with (go_at_call 109;refine A.mono ?_;rintro e w1 ⟨rfl,b1⟩;have HB1:Hid _:=HB0.out.trans (b1.mono szr);clear b1 A HB0 HB);exact⟨⟨lo,((lo+hi) / 2),rfl,by go_num,by omega,by omega,HLO,HDN2,HB1⟩,by simp[intOf];omega⟩
  ·have e:hi=lo:=by omega
   subst e;have HE:Hid (AZ ms id hi):=⟨hhn,HLO.out,HHI.out⟩;clear HLO HHI HR;by_cases hn:hi<ms.length
   ·obtain⟨b,off,rfl,hb,hcc⟩:=HC.out (by omega);obtain⟨x0,x1,x2,x3,x4⟩:=hcc hi (by omega);have c0:=(HB.out.cell (p:=⟨b,off+hi*5,none⟩) hb).trans x0;have c1:=(HB.out.cell (p:=⟨b,off+hi*5+1,none⟩) hb).trans x1;have c2:=(HB.out.cell (p:=⟨b,off+hi*5+2,none⟩) hb).trans x2;have c3:=(HB.out.cell (p:=⟨b,off+hi*5+3,none⟩) hb).trans x3;have c4:=(HB.out.cell (p:=⟨b,off+hi*5+4,none⟩) hb).trans x4;have A:=yA (ms.getD hi moD) (HS.out _ (cZ (by omega))) id wr;obtain⟨sa,sn,sc,hsv⟩:=HS.out _ (cZ (show hi<ms.length by omega));have szr:=HB.out.size;obtain⟨bb,hbb⟩:∃bb,(decide (hi<ms.length)&&decide ((ms.getD hi moD).id=id))=bb:=⟨_,rfl⟩
    have HBB:Hid _:=hbb
    have HV:Hid (bb=(fj (ms.getD hi moD).id id==0)):=by
     show _=_
     rw[←hbb,Bool.eq_iff_iff];simp only[Bool.and_eq_true,decide_eq_true_eq,beq_iff_eq];unfold fj;split<;>(try split)<;>omega
    clear hcc HC HS x0 x1 x2 x3 x4 hbb;generalize hxx:ms.getD hi moD=x at *;obtain⟨xi,xc,xf,xh,xv,xs⟩:=x;simp only at hsv;subst hsv;simp only[ov]at A;simp only at HV;have HXX:Hid _:=hxx;clear hxx;generalize fj xi id=cc at *;cases hcc:(cc==0)
    ·rw[hcc]at HV;go_wp2_with (go_at_call 109;refine A.mono ?_;rintro e w1 ⟨rfl,b1⟩;have HB1:Hid _:=HB.out.trans (b1.mono szr);clear b1 A);refine bodyPost_ret (v:=.tuple #[.int .i64 hi,.bool false]) (by simp[results,Tryz.results108,go_sem]) rfl ⟨hi,HE,by rw[HXX.out,HBB.out,HV.out],HB1⟩
    ·rw[hcc]at HV;go_wp2_with (go_at_call 109;refine A.mono ?_;rintro e w1 ⟨rfl,b1⟩;have HB1:Hid _:=HB.out.trans (b1.mono szr);clear b1 A);refine bodyPost_ret (v:=.tuple #[.int .i64 hi,.bool true]) (by simp[results,Tryz.results108,go_sem]) rfl ⟨hi,HE,by rw[HXX.out,HBB.out,HV.out],HB1⟩
   ·have HV:Hid ((decide (hi<ms.length)&&decide ((ms.getD hi moD).id=id))=false):=by
      show _=_
      simp[hn]
    clear HC HS;go_wp2;refine bodyPost_ret (v:=.tuple #[.int .i64 hi,.bool false]) (by simp[results,Tryz.results108,go_sem]) rfl ⟨hi,HE,by rw[HV.out],HB⟩
theorem wP {w:World} {v:Value} {ms:List MO} (h:jC w v ms) (hsl:Slices ms) (hr:DG ms) (hl:ms.length≤1048576) (id:Int) :
    Calls Tryz.prog 55 #[v,.int .i64 id] w fun e w'=>∃i:Nat,AZ ms id i∧e = .returned (.tuple #[.int .i64 i,.bool (decide (i<ms.length)&&decide ((ms.getD i moD).id=id))])∧Below w.heap.size w w':=by
 have S:=jc h hsl hr hl id;obtain⟨a,cap,rfl,hlc,hcm,_,hc⟩:=h;clear hc;go_enter Tryz.func55,Tryz.ntmps55;go_wp2_with fail;refine S.mono ?_;rintro e w1 ⟨i,hE,rfl,b1⟩;have HE:Hid _:=hE;have HB:Hid _:=b1;clear S hE b1;generalize hbb:(decide (i<ms.length)&&decide ((ms.getD i moD).id=id))=bb at *;have HBB:Hid _:=hbb;clear hbb;go_wp2;exact bodyPost_ret (v:=.tuple #[.int .i64 i,.bool bb]) (by simp[results,Tryz.results55,go_sem]) rfl ⟨i,HE,by rw[HBB.out],HB⟩
theorem Hd {ms:List MO} {os:List Ob} (e:ms.map MO.abs=os) {id:Int} {i:Nat} (h:AZ ms id i):Ends os id i:=by
 subst e;have g:∀t,((ms.map MO.abs).getD t obD).id=(ms.getD t moD).id:=fun t=>by rw[fo];rfl
 refine⟨by simpa using h.1,fun t ht=>by rw[g];exact h.2.1 t ht,fun t h1 h2=>by rw[g];exact h.2.2 t h1 (by simpa using h2)⟩
theorem He {ms:List MO} {os:List Ob} (e:ms.map MO.abs=os) (h:zK os):DG ms:=by
 subst e;have g:∀t,((ms.map MO.abs).getD t obD).id=(ms.getD t moD).id:=fun t=>by rw[fo];rfl
 intro i j hij hj;have:=h i j hij (by simpa using hj)
 rw[g,g]at this;exact this
def fG (os:List Ob) (r:Rf):Bool:=r.1==2&&decide (0≤atI os r.2)
def cV (os:List Ob) (r:Rf):Nat:=(atI os r.2).toNat
theorem gT {os:List Ob} {r:Rf} (h:fG os r=true):cV os r<os.length:=by
 simp only[fG,Bool.and_eq_true,decide_eq_true_eq]at h;unfold cV;rcases Fi os r.2 with e|e<;>omega
set_option maxHeartbeats 2000000 in
theorem pM {w:World} {v:Value} {ms:List MO} {os:List Ob} (h:jC w v ms) (hsl:Slices ms) (ea:ms.map MO.abs=os) (hr:zK os) (hl:ms.length≤1048576) (r:Rf) :
    Calls Tryz.prog 25 #[v,rv r] w fun e w'=>∃k:Nat,e = .returned (.tuple #[.int .i64 k,.bool (fG os r)])∧(fG os r=true→k=cV os r)∧Below w.heap.size w w':=by
 have HP:Hid (∀W,Below w.heap.size w W→∀id,_):=fun W hW id=>wP (cC h hW) hsl (He ea hr) hl id
 have hlen:ms.length=os.length:=by rw[←ea];simp
 have HI:Hid (∀id i,AZ ms id i→(decide (i<ms.length)&&decide ((ms.getD i moD).id=id))=decide (0≤atI os id)∧(0≤atI os id→i=(atI os id).toNat)):=fun id i hE=>by
  have:=FL hr (Hd ea hE)
  refine⟨by rw[←this,←hlen,←ea,fo];rfl,fun hp => ?_⟩
  have:=(zL hr (Hd ea hE) hp).1
  omega
 obtain⟨a,cap,rfl,hlc,hcm,_,hc⟩:=h;clear hc hlen;obtain⟨k,n⟩:=r;have B:Below w.heap.size w (w.alloc (rb (k,n))):=(Below.refl _ w).alloc (Nat.le_refl _) _;have L:=wO (k,n) (w.alloc (rb (k,n)));have HB:Hid _:=B;have szB:=B.size;clear B;simp only at L;by_cases h2:k=2
 ·subst h2;simp only[if_true]at L;have e22:((2:Int)==2)=true:=rfl;rw[e22]at L;obtain⟨bb,hbb⟩:∃bb,fG os (2,n)=bb:=⟨_,rfl⟩
  obtain⟨pp,hpp⟩:∃pp,cV os (2,n)=pp:=⟨_,rfl⟩
  have HL:Hid (decide (0≤atI os n)=bb):=by show _=_;rw[←hbb];simp[fG]
  have HLP:Hid ((atI os n).toNat=pp):=hpp;rw[hbb,hpp];clear e22 hbb hpp;go_enter Tryz.func25,Tryz.ntmps25;go_wp2_with fail;refine L.mono ?_;rintro e w1 ⟨rfl,b1⟩;have B1:=HB.out.trans (b1.mono szB);have PO:=HP.out w1 B1 n;have sz1:=B1.size;have HB1:Hid _:=B1;clear L HP b1 HB B1;go_wp2_with fail;refine PO.mono ?_;rintro e w2 ⟨i,hE,rfl,b2⟩;obtain⟨hI,hJ⟩:=HI.out n i hE;have HQ:Hid (bb=true→i=pp):=fun e=>by rw[←HLP.out];exact hJ (by rw[←HL.out]at e;simpa using e)
  have hI':=hI.trans HL.out;rw[hI'];have HB2:Hid _:=HB1.out.trans (b2.mono sz1);clear PO HI hI hI' hJ hE b2 HL HLP;go_wp2;exact bodyPost_ret (v:=.tuple #[.int .i64 i,.bool bb]) (by simp[results,Tryz.results25,go_sem]) rfl ⟨i,rfl,HQ.out,HB2⟩
 ·have e2:(k==2)=false:=by simpa using h2
  have HL:Hid (fG os (k,n)=false):=by show _=_;simp[fG,e2]
  rw[if_neg h2,e2]at L;clear HP HI e2;go_enter Tryz.func25,Tryz.ntmps25;go_wp2_with (go_at_call 54;refine L.mono ?_;rintro e w1 ⟨rfl,b1⟩;have HB1:Hid _:=HB.out.trans (b1.mono szB);clear b1 L HB);refine bodyPost_ret (v:=.tuple #[.int .i64 0,.bool false]) (by simp[results,Tryz.results25,go_sem]) rfl ⟨0,by rw[HL.out];rfl,fun e => ?_,HB1⟩;rw[HL.out]at e;cases e
theorem gu {G:Gr} (h:gOk G=true):G.objs.length≤500∧G.roots.length=6∧G.a7.length≤40∧1≤G.next∧G.next≤100000∧0≤G.seed∧G.seed≤65535:=by
 unfold gOk at h;simp only[Bool.and_eq_true]at h;obtain⟨⟨⟨h0,_⟩,_⟩,_⟩:=h;simp only[oR,inR,Bool.and_eq_true,decide_eq_true_eq]at h0;omega
theorem pN {w:World} {base:Nat} {o r m:Value} {ms:List MO} {G:Gr} (O:ja w base o r m ms G):ms.length=G.objs.length:=by rw[←O.1];simp
theorem Ba {w:World} {base:Nat} {o r m:Value} {ms:List MO} {G:Gr} (O:ja w base o r m ms G) (k:Nat):(ms.getD k moD).slots=(G.objs.getD k obD).slots:=by rw[←O.1,fo];rfl
def slotsOf:List Ob→Nat
 | []=>0
 |o :: os=>o.slots.length+slotsOf os
structure gG (G:Gr):Prop where
 head:oR G=true
 ob:∀i,i<G.objs.length→Bs G.objs G.next i=true
 sl:∀i,i<G.objs.length→∀k,k<(G.objs.getD i obD).slots.length→fH G.objs ((G.objs.getD i obD).slots.getD k bU)=true
 root:∀i,i<6→fH G.objs (G.roots.getD i bU)=true
 mo:∀i,i<G.a7.length→(G.a7.getD i bU).1=2∧fH G.objs (G.a7.getD i bU)=true
theorem jd {G:Gr} (h:gOk G=true):gG G:=by
 unfold gOk at h;simp only[Bool.and_eq_true,List.all_eq_true,List.mem_range]at h;obtain⟨⟨⟨h0,h1⟩,h2⟩,h3⟩:=h;refine⟨h0,fun i hi=>(h1 i hi).1,fun i hi k hk => ?_,h2,fun i hi => ?_⟩
 ·have:=(h1 i hi).2
  unfold GV at this;rw[List.all_eq_true]at this;exact this k (List.mem_range.2 hk)
 ·have:=h3 i hi
  simpa using this
theorem gG.gOk {G:Gr} (h:gG G):gOk G=true:=by
 refine Bt h.head (fun i hi => ?_) h.root (fun i hi => ?_)
 ·rw[h.ob i hi,DL (h.sl i hi)];rfl
 ·have:=h.mo i hi
  rw[this.1,this.2];rfl
theorem Bb (os:List Ob) (id:Int):atI os id=match (os.map Ob.id).findIdx? (fun o=>o==id) with|some i=>(i:Int)|none => -1:=by
 unfold atI;rw[List.findIdx?_map];rfl
theorem FA {os os':List Ob} (h:os.map Ob.id=os'.map Ob.id) (id:Int):atI os id=atI os' id:=by rw[Bb,Bb,h]
theorem lO {os os':List Ob} (h:os.map Ob.id=os'.map Ob.id) (r:Rf):fH os r=fH os' r:=by unfold fH;rw[FA h]
theorem lz {os:List Ob} {next:Int} {i:Nat} (h:Bs os next i=true):jz os i<(os.getD i obD).id∧(os.getD i obD).id<next∧(os.getD i obD).fmt≤2∧hok ((os.getD i obD).slots.length:Int) (os.getD i obD).fmt (os.getD i obD).cls (os.getD i obD).hash false false=true:=by
 simp only[Bs,Bool.and_eq_true,decide_eq_true_eq]at h;exact⟨h.1.1.1,h.1.1.2,h.1.2,h.2⟩
theorem FB {os:List Ob} {next:Int} {i:Nat} (h:jz os i<(os.getD i obD).id∧(os.getD i obD).id<next∧(os.getD i obD).fmt≤2∧hok ((os.getD i obD).slots.length:Int) (os.getD i obD).fmt (os.getD i obD).cls (os.getD i obD).hash false false=true):Bs os next i=true:=by
 simp only[Bs,Bool.and_eq_true,decide_eq_true_eq];exact⟨⟨⟨h.1,h.2.1⟩,h.2.2.1⟩,h.2.2.2⟩
theorem ko {G:Gr} (h:oR G=true):G.objs.length≤500∧G.roots.length=6∧G.a7.length≤40∧1≤G.next∧G.next≤100000∧0≤G.seed∧G.seed≤65535:=by
 simp only[oR,inR,Bool.and_eq_true,decide_eq_true_eq]at h;omega
theorem FD {G:Gr} (h:G.objs.length≤500∧G.roots.length=6∧G.a7.length≤40∧1≤G.next∧G.next≤100000∧0≤G.seed∧G.seed≤65535):oR G=true:=by
 simp only[oR,inR,Bool.and_eq_true,decide_eq_true_eq];omega
def onw (o:Ob):List Rf:=if o.fmt=0 then o.slots else if o.fmt=2 then o.slots.drop 1 else []
def awt (os:List Ob) (o:Ob):Option Nat:=if o.fmt=2∧fG os (o.slots.getD 0 bU)=true then some (cV os (o.slots.getD 0 bU)) else none
def Hf (G:Gr) (S:Nat→Prop):Prop:=
 (∀r,r ∈ G.roots++G.a7→fG G.objs r=true→S (cV G.objs r)) ∧
 (∀p,S p→awt G.objs (G.objs.getD p obD)=none→∀r,r ∈ onw (G.objs.getD p obD)→fG G.objs r=true→S (cV G.objs r)) ∧
 (∀p q,S p→awt G.objs (G.objs.getD p obD)=some q→S q→∀r,r ∈ onw (G.objs.getD p obD)→fG G.objs r=true→S (cV G.objs r))
def Rch (G:Gr) (p:Nat):Prop:=∀S,Hf G S→S p
theorem Rch.root {G:Gr} (r:Rf) (h:r ∈ G.roots++G.a7) (hl:fG G.objs r=true):Rch G (cV G.objs r):=fun S c=>c.1 r h hl
theorem Rch.on0 {G:Gr} (p:Nat) (hp:Rch G p) (ha:awt G.objs (G.objs.getD p obD)=none) (r:Rf) (h:r ∈ onw (G.objs.getD p obD)) (hl:fG G.objs r=true):Rch G (cV G.objs r):=fun S c=>c.2.1 p (hp S c) ha r h hl
theorem Rch.on1 {G:Gr} (p q:Nat) (hp:Rch G p) (ha:awt G.objs (G.objs.getD p obD)=some q) (hq:Rch G q) (r:Rf) (h:r ∈ onw (G.objs.getD p obD)) (hl:fG G.objs r=true):Rch G (cV G.objs r):=fun S c=>c.2.2 p q (hp S c) ha (hq S c) r h hl
theorem rX {G:Gr} {p:Nat} (h:Rch G p):p<G.objs.length:=h (fun p=>p<G.objs.length) ⟨fun r _ hl=>gT hl,fun _ _ _ r _ hl=>gT hl,fun _ _ _ _ _ r _ hl=>gT hl⟩
structure St where
 is:List Bool
 wt:List (List Rf)
abbrev St.i (s:St) (p:Nat):Bool:=s.is.getD p false
abbrev St.w (s:St) (p:Nat):List Rf:=s.wt.getD p []
def goes (G:Gr) (t:St) (l:List Rf):Prop:=∀r ∈ l,fG G.objs r=true→t.i (cV G.objs r)=true
def Jv (G:Gr) (t:St) (p:Nat):Prop:=(awt G.objs (G.objs.getD p obD)=none→goes G t (onw (G.objs.getD p obD)))∧∀q,awt G.objs (G.objs.getD p obD)=some q→(t.i q=true→goes G t (onw (G.objs.getD p obD)))∧(t.i q=false→∀r ∈ onw (G.objs.getD p obD),r ∈ t.w q)
structure Step (G:Gr) (L:List Rf) (s t:St):Prop where
 mono:∀p,s.i p=true→t.i p=true
 all:goes G t L
 done:∀p,t.i p=true→s.i p=false→Jv G t p
 old:∀q,s.i q=false→t.i q=true→goes G t (s.w q)
 keep:∀q,t.i q=false→∀r ∈ s.w q,r ∈ t.w q
theorem lQ {G:Gr} {s t:St} {l:List Rf} (h:goes G s l) (m:∀p,s.i p=true→t.i p=true):goes G t l:=fun r hr hl=>m _ (h r hr hl)
theorem Step.refl {G:Gr} (s:St):Step G [] s s:=⟨fun _ h=>h,fun r hr=>(List.not_mem_nil hr).elim,fun p h1 h2=>(by rw[h1]at h2;cases h2),fun q h1 h2=>(by rw[h1]at h2;cases h2),fun _ _ _ h=>h⟩
theorem Step.trans {G:Gr} {L M:List Rf} {s t u:St} (a:Step G L s t) (b:Step G M t u):Step G (L++M) s u:=by
 have old:∀q,s.i q=false→u.i q=true→goes G u (s.w q):=fun q h1 h2=>by
  cases h:t.i q
  ·exact fun r hr hl=>b.old q h h2 r (a.keep q h r hr) hl
  ·exact lQ (a.old q h1 h) b.mono
 refine⟨fun p h=>b.mono p (a.mono p h),fun r hr hl => ?_,fun p h1 h2 => ?_,old,fun q h r hr => ?_⟩
 ·rcases List.mem_append.1 hr with h|h
  ·exact b.mono _ (a.all r h hl)
  ·exact b.all r h hl
 ·cases h:t.i p
  ·exact b.done p h1 h
  ·obtain⟨d0,d1⟩:=a.done p h h2;refine⟨fun e=>lQ (d0 e) b.mono,fun q e=>⟨fun hq => ?_,fun hq => ?_⟩⟩
   ·cases h':t.i q
    ·exact fun r hr hl=>b.old q h' hq r ((d1 q e).2 h' r hr) hl
    ·exact lQ ((d1 q e).1 h') b.mono
   ·have h':t.i q=false:=by
      cases h':t.i q
      ·rfl
      ·rw[b.mono q h']at hq;cases hq
    exact fun r hr=>b.keep q hq r ((d1 q e).2 h' r hr)
 ·have h':t.i q=false:=by
    cases h':t.i q
    ·rfl
    ·rw[b.mono q h']at h;cases h
  exact b.keep q h r (a.keep q h' r hr)
structure Sound (G:Gr) (s:St):Prop where
 i:∀p,s.i p=true→Rch G p
 w:∀q r,r ∈ s.w q→Rch G q→fG G.objs r=true→Rch G (cV G.objs r)
def Hg (G:Gr) (L:List Rf):Prop:=∀r ∈ L,fG G.objs r=true→Rch G (cV G.objs r)
def St.pO (s:St) (p:Nat):St:=⟨s.is.set p true,s.wt⟩
def St.wait (s:St) (q:Nat) (l:List Rf):St:=⟨s.is,s.wt.set q (s.w q++l)⟩
theorem jy {s:St} {p:Nat} (hp:p<s.is.length) (k:Nat):(s.pO p).i k=if k=p then true else s.i k:=by
 show (s.is.set p true).getD k false=_
 rw[List.getD_eq_getElem?_getD,List.getElem?_set];by_cases h:p=k
 ·subst h;simp[hp]
 ·rw[if_neg h,if_neg (fun e=>h e.symm),←List.getD_eq_getElem?_getD]
theorem uE {s:St} {q:Nat} {l:List Rf} (hq:q<s.wt.length) (k:Nat):(s.wait q l).w k=if k=q then s.w q++l else s.w k:=by
 show (s.wt.set q (s.w q++l)).getD k []=_
 rw[List.getD_eq_getElem?_getD,List.getElem?_set];by_cases h:q=k
 ·subst h;simp[hq]
 ·rw[if_neg h,if_neg (fun e=>h e.symm),←List.getD_eq_getElem?_getD]
theorem rZ {G:Gr} {s:St} {p:Nat} (h:Sound G s) (hp:p<s.is.length) (hr:Rch G p):Sound G (s.pO p):=by
 refine⟨fun k hk => ?_,h.w⟩
 rw[jy hp]at hk;split at hk
 ·rename_i e;rw[e];exact hr
 ·exact h.i k hk
theorem zF {G:Gr} {s:St} {p q:Nat} (h:Sound G s) (hq:q<s.wt.length) (hp:Rch G p) (ha:awt G.objs (G.objs.getD p obD)=some q):Sound G (s.wait q (onw (G.objs.getD p obD))):=by
 refine⟨h.i,fun k r hr hk hl => ?_⟩
 rw[uE hq]at hr;split at hr
 ·rename_i e
  subst e;rcases List.mem_append.1 hr with h'|h'
  ·exact h.w k r h' hk hl
  ·exact Rch.on1 p k hp ha hk r h' hl
 ·exact h.w k r hr hk hl
theorem FG {G:Gr} {s:St} {r:Rf} (h:fG G.objs r=true→s.i (cV G.objs r)=true):Step G [r] s s:=
 ⟨fun _ h=>h,fun r' hr=>by rw[List.mem_singleton.1 hr];exact h,fun p h1 h2=>(by rw[h1]at h2;cases h2),fun q h1 h2=>(by rw[h1]at h2;cases h2),fun _ _ _ h=>h⟩
theorem FJ {G:Gr} {s t u:St} {r:Rf} (hn:s.i (cV G.objs r)=false) (hp:cV G.objs r<s.is.length)
    (a:Step G (s.w (cV G.objs r)) (s.pO (cV G.objs r)) t) (b:Step G (onw (G.objs.getD (cV G.objs r) obD)) t u)
    (hw:∀q,awt G.objs (G.objs.getD (cV G.objs r) obD)=some q→t.i q=true):Step G [r] s u:=by
 have c:=a.trans b;have hu:u.i (cV G.objs r)=true:=c.mono _ (by rw[jy hp,if_pos rfl]);refine⟨fun p h=>c.mono p ?_,fun r' hr hl=>by rw[List.mem_singleton.1 hr];exact hu,fun p h1 h2 => ?_,fun q h1 h2 => ?_,fun q h r' hr=>c.keep q h r' hr⟩
 ·rw[jy hp];split
  ·rfl
  ·exact h
 ·by_cases e:p=cV G.objs r
  ·subst e;exact⟨fun _=>b.all,fun q e=>⟨fun _=>b.all,fun h=>(by rw[b.mono q (hw q e)]at h;cases h)⟩⟩
  ·exact c.done p h1 (by rw[jy hp,if_neg e];exact h2)
 ·by_cases e:q=cV G.objs r
  ·subst e;exact lQ a.all b.mono
  ·exact c.old q (by rw[jy hp,if_neg e];exact h1) h2
theorem Bc {G:Gr} {s t:St} {r:Rf} {q:Nat} (hn:s.i (cV G.objs r)=false) (hp:cV G.objs r<s.is.length)
    (a:Step G (s.w (cV G.objs r)) (s.pO (cV G.objs r)) t) (hq:q<t.wt.length)
    (ha:awt G.objs (G.objs.getD (cV G.objs r) obD)=some q) (hw:t.i q=false):Step G [r] s (t.wait q (onw (G.objs.getD (cV G.objs r) obD))):=by
 have hu:t.i (cV G.objs r)=true:=a.mono _ (by rw[jy hp,if_pos rfl])
 have kp:∀k,∀r' ∈ t.w k,r' ∈ (t.wait q (onw (G.objs.getD (cV G.objs r) obD))).w k:=fun k r' hr=>by
  rw[uE hq];split
  ·rename_i e;subst e;exact List.mem_append_left _ hr
  ·exact hr
 refine⟨fun p h=>a.mono p ?_,fun r' hr hl=>by rw[List.mem_singleton.1 hr];exact hu,fun p h1 h2 => ?_,fun k h1 h2 => ?_,fun k h r' hr=>kp k r' (a.keep k h r' hr)⟩
 ·rw[jy hp];split
  ·rfl
  ·exact h
 ·by_cases e:p=cV G.objs r
  ·subst e;refine⟨fun e=>(by rw[ha]at e;cases e),fun k e => ?_⟩
   rw[ha]at e;injection e with e
   subst e;refine⟨fun h => ?_,fun _ r' hr => ?_⟩
   ·have:t.i q=true:=h
    rw[hw]at this;cases this
   ·rw[uE hq,if_pos rfl];exact List.mem_append_right _ hr
  ·obtain⟨d0,d1⟩:=a.done p h1 (by rw[jy hp,if_neg e];exact h2);exact⟨d0,fun k e=>⟨(d1 k e).1,fun h r' hr=>kp k r' ((d1 k e).2 h r' hr)⟩⟩
 ·by_cases e:k=cV G.objs r
  ·subst e;exact a.all
  ·exact a.old k (by rw[jy hp,if_neg e];exact h1) h2
def St.none (n:Nat):St:=⟨List.replicate n false,List.replicate n []⟩
theorem Bd (n p:Nat):(St.none n).i p=false:=by
 show (List.replicate n false).getD p false=false
 rw[List.getD_eq_getElem?_getD,List.getElem?_replicate];split<;>rfl
theorem yB (n p:Nat):(St.none n).w p=[]:=by
 show (List.replicate n ([]:List Rf)).getD p []=[]
 rw[List.getD_eq_getElem?_getD,List.getElem?_replicate];split<;>rfl
theorem zG (G:Gr) (n:Nat):Sound G (St.none n):=⟨fun p h=>(by rw[Bd]at h;cases h),fun q r h=>(by rw[yB]at h;cases h)⟩
theorem DI {G:Gr} {n:Nat} {t:St} (a:Step G (G.roots++G.a7) (St.none n) t) (hs:Sound G t) (p:Nat):t.i p=true↔Rch G p:=by
 refine⟨hs.i p,fun h=>h (fun p=>t.i p=true) ⟨fun r h hl=>a.all r h hl,fun p ih ha r h hl=>(a.done p ih (Bd n p)).1 ha r h hl,fun p q ih ha ih2 r h hl=>((a.done p ih (Bd n p)).2 q ha).1 ih2 r h hl⟩⟩
def St.left (s:St):Nat:=s.is.count false
theorem jI {s:St} {p:Nat} (hp:p<s.is.length) (h:s.i p=false):(s.pO p).left+1=s.left:=by
 unfold St.left St.pO;have e:s.is[p]=false:=by have:s.is.getD p false=false:=h;rw[List.getD_eq_getElem?_getD,List.getElem?_eq_getElem hp]at this;exact this
 have h1:0<s.is.count false:=by rw[List.count_pos_iff];rw[←e];exact List.getElem_mem hp
 rw[List.count_set hp];simp[e];omega
abbrev eN (xs:List Int):Prop:=xs.Pairwise (· < ·)
theorem kr:∀ {xs ys:List Int},eN xs→eN ys→(∀a,a ∈ xs↔a ∈ ys)→xs=ys
 | [],[],_,_,_=>rfl
 | [],y :: ys,_,_,h=>absurd ((h y).2 (by simp)) (by simp)
 |x :: xs,[],_,_,h=>absurd ((h x).1 (by simp)) (by simp)
 |x :: xs,y :: ys,hx,hy,h=>by
  obtain⟨hx1,hx2⟩:=List.pairwise_cons.1 hx;obtain⟨hy1,hy2⟩:=List.pairwise_cons.1 hy
  have e:x=y:=by
   have h1:=(h x).1 (by simp);have h2:=(h y).2 (by simp);rcases List.mem_cons.1 h1 with e|e
   ·exact e
   ·rcases List.mem_cons.1 h2 with e'|e'
    ·exact e'.symm
    ·have:=hx1 y e';have:=hy1 x e;omega
  subst e;rw[kr hx2 hy2 fun a => ?_];constructor
  ·intro ha;rcases List.mem_cons.1 ((h a).1 (by simp[ha])) with e|e
   ·have:=hx1 a ha;omega
   ·exact e
  ·intro ha;rcases List.mem_cons.1 ((h a).2 (by simp[ha])) with e|e
   ·have:=hy1 a ha;omega
   ·exact e
def putI (n:Int):List Int→List Int
 | []=>[n]
 |x :: xs=>if x<n then x :: putI n xs else if x=n then x :: xs else n :: x :: xs
theorem dP {n:Int}:∀ {xs:List Int} {a:Int},a ∈ putI n xs↔a=n∨a ∈ xs
 | [],a=>by simp[putI]
 |x :: xs,a=>by
  unfold putI;split
  ·rw[List.mem_cons,dP,List.mem_cons];constructor
   ·rintro (h|h|h)<;>simp[h]
   ·rintro (h|h|h)<;>simp[h]
  ·split
   ·rename_i e
    subst e;constructor
    ·intro h;exact .inr h
    ·rintro (h|h)
     ·simp[h]
     ·exact h
   ·simp
theorem je {n:Int}:∀ {xs:List Int},eN xs→eN (putI n xs)
 | [],_=>by simp[putI]
 |x :: xs,h=>by
  obtain⟨h1,h2⟩:=List.pairwise_cons.1 h;unfold putI;split
  ·rename_i e
   refine List.pairwise_cons.2 ⟨fun a ha => ?_,je h2⟩;rcases dP.1 ha with e'|e'
   ·omega
   ·exact h1 a e'
  ·split
   ·exact h
   ·rename_i e1 e2
    refine List.pairwise_cons.2 ⟨fun a ha => ?_,h⟩;rcases List.mem_cons.1 ha with e'|e'
    ·omega
    ·have:=h1 a e';omega
theorem gH {n:Int}:∀ {xs:List Int},xs.length≤(putI n xs).length∧(putI n xs).length≤xs.length+1∧((putI n xs).length=xs.length→putI n xs=xs)
 | []=>by simp[putI]
 |x :: xs=>by
  have ih:= @gH n xs;unfold putI;split
  ·simp only[List.length_cons,List.cons.injEq,true_and];exact⟨by omega,by omega,fun e=>ih.2.2 (by omega)⟩
  ·split
   ·simp
   ·simp
theorem pP {n:Int}:∀ {xs:List Int} {k:Nat},k≤xs.length→(∀i,i<k→xs.getD i 0<n)→(k<xs.length→¬xs.getD k 0<n)→putI n xs=if k<xs.length∧xs.getD k 0=n then xs else xs.take k++n :: xs.drop k
 | [],k,hk,_,_=>by
   have e:k=0:=by simpa using hk
   subst e;simp[putI]
 |x :: xs,0,hk,h1,h2=>by
  have h3:=h2 (by simp);simp only[List.getD_cons_zero]at h3;unfold putI;rw[if_neg h3];by_cases e:x=n
  ·rw[if_pos e,if_pos ⟨by simp,e⟩]
  ·rw[if_neg e,if_neg (fun h=>e h.2)];rfl
 |x :: xs,k+1,hk,h1,h2=>by
  have h3:x<n:=h1 0 (by omega);have ih:= @pP n xs k (by simpa using hk) (fun i hi=>h1 (i+1) (by omega)) (fun hi=>h2 (by simpa using hi));unfold putI;rw[if_pos h3,ih];simp only[List.length_cons,List.getD_cons_succ,Nat.add_lt_add_iff_right,List.take_succ_cons,List.drop_succ_cons];split
  ·rfl
  ·rfl
theorem si {N:Int}:∀ {xs:List Int} {m:Int},eN xs→(∀x ∈ xs,m≤x∧x<N)→(xs.length:Int)≤max (N-m) 0
 | [],m,_,_=>by simp;omega
 |x :: xs,m,h,hb=>by
  obtain⟨h1,h2⟩:=List.pairwise_cons.1 h;have hx:=hb x (by simp);have:= @si N xs (x+1) h2 (fun y hy=>⟨by have:=h1 y hy;omega,(hb y (by simp[hy])).2⟩)
  simp only[List.length_cons];omega
theorem Be {os:List Ob} {r:Rf} (h:fH os r=true) (h2:r.1=2):fG os r=true∧(os.getD (cV os r) obD).id=r.2:=by
 obtain⟨h3,h4⟩:=Bu h h2;refine⟨by simp[fG,h2,h3],?_⟩
 unfold cV;have e:∃k:Nat,atI os r.2=k:=⟨(atI os r.2).toNat,by omega⟩
 obtain⟨k,hk⟩:=e;rw[hk];unfold atI at hk;split at hk
 ·rename_i i hi
  have e:i=k:=by omega
  subst e;obtain⟨h5,h6,_⟩:=List.findIdx?_eq_some_iff_getElem.1 hi;rw[Int.toNat_natCast,List.getD_eq_getElem?_getD,List.getElem?_eq_getElem h5];simpa using h6
 ·omega
theorem jJ {os:List Ob} {r:Rf} (h:fG os r=true):r.1=2:=by
 simp only[fG,Bool.and_eq_true,beq_iff_eq]at h;exact h.1
def pick (os:List Ob) (f:Nat→Bool) (k:Nat):List Int:=((List.range k).filter f).map (fun p=>(os.getD p obD).id)
theorem Bg (os:List Ob) (f:Nat→Bool) (k:Nat):pick os f (k+1)=pick os f k++if f k=true then [(os.getD k obD).id] else []:=by
 unfold pick;rw[List.range_succ,List.filter_append,List.map_append];cases h:f k<;>simp[h]
theorem yC {os:List Ob} {f:Nat→Bool} {k:Nat} {a:Int}:a ∈ pick os f k↔∃p,p<k∧f p=true∧(os.getD p obD).id=a:=by
 unfold pick;simp only[List.mem_map,List.mem_filter,List.mem_range];constructor
 ·rintro⟨p,⟨h1,h2⟩,h3⟩;exact⟨p,h1,h2,h3⟩
 ·rintro⟨p,h1,h2,h3⟩;exact⟨p,⟨h1,h2⟩,h3⟩
theorem DJ (os:List Ob) (f:Nat→Bool) (k:Nat):(pick os f k).length≤k:=by
 unfold pick;rw[List.length_map];exact Nat.le_trans (List.length_filter_le _ _) (by simp)
theorem pQ {os:List Ob} (h:zK os) (f:Nat→Bool):∀ {k:Nat},k≤os.length→eN (pick os f k)
 |0,_=>by simp[pick]
 |k+1,hk=>by
  rw[Bg];refine List.pairwise_append.2 ⟨pQ h f (by omega),by split<;>simp,fun a ha b hb => ?_⟩;obtain⟨p,h1,_,rfl⟩:=yC.1 ha;split at hb
  ·rw[List.mem_singleton]at hb;subst hb;exact h p k h1 (by omega)
  ·simp at hb
def IsR (G:Gr) (xs:List Int):Prop:=∃f:Nat→Bool,(∀p,f p=true↔Rch G p)∧xs=pick G.objs f G.objs.length
theorem Fg (G:Gr):∃xs,IsR G xs:=by
 classical
 exact⟨_,fun p=>decide (Rch G p),fun p=>by simp,rfl⟩
theorem Hi {G:Gr} {xs:List Int} (h:IsR G xs) {f:Nat→Bool} (hf:∀p,f p=true↔Rch G p):xs=pick G.objs f G.objs.length:=by
 obtain⟨g,hg,rfl⟩:=h
 have e:g=f:=by
  funext p
  rw[Bool.eq_iff_iff,hg,hf]
 rw[e]
theorem Bh {G:Gr} {xs:List Int} (h:IsR G xs) {a:Int}:a ∈ xs↔∃p,Rch G p∧(G.objs.getD p obD).id=a:=by
 obtain⟨g,hg,rfl⟩:=h;rw[yC];constructor
 ·rintro⟨p,_,h2,h3⟩;exact⟨p,(hg p).1 h2,h3⟩
 ·rintro⟨p,h2,h3⟩;exact⟨p,rX h2,(hg p).2 h2,h3⟩
theorem zH {G:Gr} {xs:List Int} (hG:gOk G=true) (h:IsR G xs):eN xs:=by
 obtain⟨g,hg,rfl⟩:=h;exact pQ (fY hG) g (Nat.le_refl _)
theorem FK {G:Gr} {xs:List Int} (h:IsR G xs):xs.length≤G.objs.length:=by
 obtain⟨g,hg,rfl⟩:=h;exact DJ _ _ _
end Go.Proofs.YtocidankimefpaaGreatDoor.gr
