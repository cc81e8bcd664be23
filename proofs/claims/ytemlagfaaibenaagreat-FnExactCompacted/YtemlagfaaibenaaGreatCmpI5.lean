/-
  Chapter 15 as the program has it: leadToMoved.
  Made from the template CmpI5 (mkcmpi5.py).
-/
import Derived.Test.YtemlagfaaibenaaGreatM17
import Derived.Test.YtemlagfaaibenaaGreatM16
import Derived.Test.YtemlagfaaibenaaGreatM14
import Derived.Test.YtemlagfaaibenaaGreatM18
import Derived.Test.YtemlagfaaibenaaGreatM2
namespace Go.Proofs.YtemlagfaaibenaaGreat.hp
open Go.RowKit rows heads words walks region Go.Maps
set_option maxRecDepth 100000
set_option linter.unusedVariables false
set_option linter.unusedSimpArgs false
theorem i64_wfI {n:Int} (h:0≤n∧n≤100000):(Lit.int .i64 n).wf=true:=by
 simp[Lit.wf,IntKind.min,IntKind.max,IntKind.signed,IntKind.bits]
 omega
structure BeM (W:World) (b n:Nat) (D:DataW Unit) (S:Mv→Prop):Prop where
 own:W.ownsMap Tryz.prog 2 (plainElem (H:=Unit) Tryz.prog 2) b n D
 has:∀kl,Maps.has D kl=true→∃m,S m∧kl = .int .i64 (4*(m.f:Int)+4)
 ats:∀m,S m→Maps.has D (.int .i64 (4*(m.f:Int)+4))=true∧∀zd,D.atKey (.int .i64 (4*(m.f:Int)+4)) zd = .lit (.int .i64 (4*(m.t:Int)+4))
theorem BeM.kept {W W':World} {b n:Nat} {D:DataW Unit} {S:Mv→Prop} (h:BeM W b n D S) {row:Option Nat} (hg:W.grownBy W' row) (hne:some b≠row):BeM W' b n D S:=⟨h.own.kept hg hne,h.has,h.ats⟩
theorem BeM.congr {W:World} {b n:Nat} {D:DataW Unit} {S S':Mv→Prop} (h:BeM W b n D S) (he:∀m,S m↔S' m):BeM W b n D S':=⟨h.own,fun kl hk=>by obtain⟨m,hm,e⟩:=h.has kl hk;exact⟨m,(he m).1 hm,e⟩,fun m hm=>h.ats m ((he m).2 hm)⟩
theorem BeM.more {W W':World} {b n n':Nat} {D:DataW Unit} {S:Mv→Prop} (h:BeM W b n D S) {m:Mv} (hf:∀x,S x→x.f≠m.f) (ho:W'.ownsMap Tryz.prog 2 (plainElem (H:=Unit) Tryz.prog 2) b n' (D.put (.int .i64 (4*(m.f:Int)+4)) (.lit (.int .i64 (4*(m.t:Int)+4))))):BeM W' b n' (D.put (.int .i64 (4*(m.f:Int)+4)) (.lit (.int .i64 (4*(m.t:Int)+4)))) (fun x=>S x∨x=m):=by
 have hD:=h.own.isMap
 have hk:WideAt.IsKeyLit (.int .i64 (4*(m.f:Int)+4)):=trivial
 have hne:∀x,S x→(Lit.int .i64 (4*(x.f:Int)+4)) ≠ .int .i64 (4*(m.f:Int)+4):=fun x hx e=>by
  injection e with _ e
  exact hf x hx (by omega)
 refine⟨ho,fun kl hk' => ?_,fun x hx => ?_⟩
 ·by_cases e:kl = .int .i64 (4*(m.f:Int)+4)
  ·exact⟨m,.inr rfl,e⟩
  ·rw[has_put_other e]at hk'
   obtain⟨x,hx,e2⟩:=h.has kl hk'
   exact⟨x,.inl hx,e2⟩
 ·rcases hx with hx|rfl
  ·obtain⟨a1,a2⟩:=h.ats x hx
   exact⟨by rw[has_put_other (hne x hx)];exact a1,fun zd=>by rw[atKey_put_other (hne x hx)];exact a2 zd⟩
  ·exact⟨has_put_same hD hk _,fun zd=>atKey_put_same hD hk _ zd⟩
theorem tellVB {P:Program} {ops:Array Oper} {o:Oper} {D:Nat→Bool} {a0:Act} {u:Nat→Value} {W W':World} {Q:Exit→Act→World→Prop} {R:World→World→Prop} {F:Value→World→Prop} {dk:Nat} {v:Value} (hw:Region.wanted o (yielded ops (ovr D a0 u).tmps)=true) (hd:o.dst=some dk) (hD:D dk=true) (hrun:(execOp (ovr D a0 u).eval o).run P W = .ok (.value v) W') (hR:R W W') (hF:F v W') :
    (Region.wanted o (yielded ops (ovr D a0 u).tmps)=true∧o.wp P (ovr D a0 u) W (fun a' W'=>∃v,a'=ovr D a0 (upd u dk v)∧R W W'∧F v W') Q)∨(Region.wanted o (yielded ops (ovr D a0 u).tmps)=false∧o.dst=some dk∧D dk=true∧F undef W):=
 .inl ⟨hw,wp_value hrun ⟨v,put_in hd hD u v,hR,hF⟩⟩
theorem grownCh {g:Nat} {w w':World} (h:Ch [g] w w'):w.grownBy w' (some g):=⟨h.os,h.tape,h.output,h.size,fun k hk hne=>h.block k hk (by simp;intro e;exact hne (by rw[e]))⟩
theorem BeM.look {W:World} {b n:Nat} {D:DataW Unit} {mvs:List Mv} (h:BeM W b n D (fun m=>m ∈ mvs)) (hsm:∀m ∈ mvs,m.f≤999∧m.t≤999) (hrs:mvs.Pairwise (fun a b=>a.f<b.f)) (H:Hp) (x:Int):(Maps.has D (.int .i64 x)=true→∀zd,D.atKey (.int .i64 x) zd = .lit (.int .i64 (nwW mvs x)))∧(Maps.has D (.int .i64 x)=false→nwW mvs x=x):=by
 constructor
 ·intro hh zd
  obtain⟨m,hm,e⟩:=h.has _ hh
  injection e with _ e
  subst e
  rw[(h.ats m hm).2 zd]
  obtain⟨s1,s2⟩:=hsm m hm
  have q:=isA_oa_yes (n:=(m.f:Int)) (by omega) (by omega)
  have e2:oa (m.f:Int)=4*(m.f:Int)+4:=by
   unfold oa
   rw[if_pos (by omega)]
   omega
  rw[e2]at q
  have hA:=q.1
  have hv:(av (4*(m.f:Int)+4)).toNat=m.f:=by rw[q.2,Int.toNat_natCast]
  have hd:dstOf mvs m.f=(m.t:Int):=by
   rcases dstOf_mem (ms:=mvs) (a:=m.f) with e|⟨m',hm',e1,e2⟩
   ·exfalso
    unfold dstOf at e
    split at e
    ·omega
    ·rename_i hnone
     rw[List.find?_eq_none]at hnone
     exact hnone m hm (by simp)
   ·rw[e2,mv_one (H:=H) hrs hm' hm e1]
  unfold nwW
  rw[hv,hd,if_pos ⟨hA,by omega⟩]
 ·intro hh
  unfold nwW
  rw[if_neg]
  rintro⟨hA,hd⟩
  rcases dstOf_mem (ms:=mvs) (a:=(av x).toNat) with e|⟨m,hm,e1,e2⟩
  ·omega
  ·have q:=isA_true hA
   have hx:x=4*(m.f:Int)+4:=by
    have:=av_small x hA
    unfold av at e1 this
    rw[if_pos hA]at e1 this
    omega
   have:=(h.ats m hm).1
   rw[←hx,hh]at this
   cases this
structure LdI (OS:List Int) (w W:World) (P base ga g2 g3 cr co cm:Nat) (vs:Value) (H:Hp) (n8:Nat) (u8:Value) (N bm nb:Nat) (Db:DataW Unit) (mvs:List Mv) (k i:Nat):Prop where
 st:St (nwW mvs) OS w W P base ga g2 g3 cr co cm vs H k i
 ls:W.ownsRow n8 22 1 u8 N (vsK ga g2 g3 co cm H OS N)
 be:BeM W bm nb Db (fun m=>m ∈ mvs)
theorem bk_lt {w:World} {P base ga g2 g3:Nat} {vs:Value} (d:Dst w P base ga g2 g3 vs) (k:Nat):bkK ga g2 g3 k<w.heap.size:=by
 have:=d.lt
 match k with
 |0=>exact this.2.1
 |1=>exact this.2.2.1
 |_+2=>exact this.1
section
variable {OS:List Int} {w W:World} {P base ga g2 g3 cr co cm:Nat} {vs:Value} {H:Hp} {n8:Nat} {u8:Value} {N bm nb:Nat} {Db:DataW Unit} {mvs:List Mv} {k i:Nat}
theorem LdI.set (h:LdI OS w W P base ga g2 g3 cr co cm vs H n8 u8 N bm nb Db mvs k i) (hO:ObsL H OS) (d:Dst w P base ga g2 g3 vs) (h8:w.heap.size≤n8) (hb:w.heap.size≤bm) (hk:k<OS.length+2) (hi:i<lnK H OS k):LdI OS w (W.setCell ⟨bkK ga g2 g3 k,ofK OS k+i,none⟩ (.int .i64 (nwW mvs (wdK H OS k i)))) P base ga g2 g3 cr co cm vs H n8 u8 N bm nb Db mvs k (i+1):=by
 have hl:=bk_lt d k
 exact⟨h.st.set hO hk d hi,row_ch (S:=[bkK ga g2 g3 k]) h.ls (one_ch _ _ _ _) (fun j hj=>by have:=(blk_lt h.ls j hj).1;simp;omega),h.be.kept (grownCh (one_ch _ _ _ _)) (by intro e;injection e with e;omega)⟩
theorem LdI.same (h:LdI OS w W P base ga g2 g3 cr co cm vs H n8 u8 N bm nb Db mvs k i) (hO:ObsL H OS) (hk:k<OS.length+2) (hi:i<lnK H OS k) (hg:nwW mvs (wdK H OS k i)=wdK H OS k i):LdI OS w W P base ga g2 g3 cr co cm vs H n8 u8 N bm nb Db mvs k (i+1):=⟨h.st.same hO hk hi hg,h.ls,h.be⟩
theorem LdI.next (h:LdI OS w W P base ga g2 g3 cr co cm vs H n8 u8 N bm nb Db mvs k (lnK H OS k)) (hO:ObsL H OS) (hk:k<OS.length+2):LdI OS w W P base ga g2 g3 cr co cm vs H n8 u8 N bm nb Db mvs (k+1) 0:=⟨h.st.next hO hk,h.ls,h.be⟩
theorem wdK_i64 (hI:HpI H) (h1:AllI (cmpH H).row) (hO:ObsL H OS) (hk:k<OS.length+2) (hi:i<lnK H OS k):I64 (wdK H OS k i):=by
 have key:∀(xs:List Int),AllI xs→∀q,q<xs.length→I64 (xs.getD q 0):=fun xs ha q hq=>by
  rw[List.getD_eq_getElem?_getD,List.getElem?_eq_getElem hq]
  exact ha _ (List.getElem_mem hq)
 match k,hk,hi with
 |0,_,hi=>exact key _ hI.2.2.1 _ hi
 |1,_,hi=>exact key _ hI.2.2.2.1 _ hi
 |k+2,hk,hi=>exact key _ h1 _ (led_at (G:=fun x=>x) hO (by omega) hi).1
end
theorem lnK_le {OS:List Int} {w W:World} {P base ga g2 g3 cr co cm:Nat} {vs vl:Value} {H:Hp} {k nr no nm:Nat} {os xs:List Int} (h:SS w W P base ga g2 g3 cr co cm nr no nm vs vl H os xs H.roots H.mourned) (hO:ObsL H OS) (hr:(cmpH H).row.length≤1000) (hk:k<OS.length+2):lnK H OS k≤maxLen:=by
 match k,hk with
 |0,_=>
  obtain⟨_,c,e,h1,h2,_⟩:=(SS.hp h).2.1
  exact Nat.le_trans h1 h2
 |1,_=>
  obtain⟨_,c,e,h1,h2,_⟩:=(SS.hp h).2.2.1
  exact Nat.le_trans h1 h2
 |k+2,hk=>
  obtain⟨j,ej,hl⟩:=hO.at' k (by omega)
  show (slotsOf (cmpH H) (OS.getD k 0)).length≤maxLen
  rw[ej]
  unfold maxLen
  omega
def dLe4 (k:Nat):Nat:=match k with
 |0=>18
 |1=>19
 |2=>20
 |3=>21
 |4=>22
 |5=>23
 |6=>24
 |_=>2000
theorem dLe4_inj:∀k,k<7→∀j,j<7→dLe4 j=dLe4 k→j=k:=by decide
def DLe4 (s:Nat):Bool:=s==18 || s==19 || s==20 || s==21 || s==22 || s==23 || s==24
def FLe4 (bm mB mf mt:Nat) (k:Nat) (t:Value) (_:World):Prop:=
 match k with
 |0=>t = .map (some bm)
 |1=>t = .pointer (some ⟨mB,0,none⟩)
 |2=>t = .int .i64 (mf:Int)
 |3=>t = .int .i64 (4*(mf:Int)+4)
 |4=>t = .pointer (some ⟨mB,1,none⟩)
 |5=>t = .int .i64 (mt:Int)
 |6=>t = .int .i64 (4*(mt:Int)+4)
 |_=>False
def dLe6 (k:Nat):Nat:=match k with
 |0=>32
 |1=>33
 |2=>34
 |3=>35
 |4=>36
 |5=>37
 |6=>38
 |7=>39
 |8=>40
 |9=>8
 |_=>2000
theorem dLe6_inj:∀k,k<10→∀j,j<10→dLe6 j=dLe6 k→j=k:=by decide
def DLe6 (s:Nat):Bool:=s==32 || s==33 || s==34 || s==35 || s==36 || s==37 || s==38 || s==39 || s==40 || s==8
def FLe6 (H:Hp) (P g2 g3 co cm n0:Nat) (k:Nat) (t:Value) (W:World):Prop:=
 match k with
 |0=>t = .pointer (some ⟨P,0,none⟩)
 |1=>t = .pointer (some ⟨P,0,none⟩)
 |2=>t = .pointer (some ⟨P,5,none⟩)
 |3=>t = .slice (some ⟨g2,0,none⟩) H.roots.length co
 |4=>t = .pointer (some ⟨P,0,none⟩)
 |5=>t = .pointer (some ⟨P,0,none⟩)
 |6=>t = .pointer (some ⟨P,6,none⟩)
 |7=>t = .slice (some ⟨g3,0,none⟩) H.mourned.length cm
 |8=>∃g,t = .slice (some ⟨g,0,none⟩) 2 2∧n0≤g∧W.heap[g]? = some (.cells #[.slice (some ⟨g2,0,none⟩) H.roots.length co,.slice (some ⟨g3,0,none⟩) H.mourned.length cm] 22)
 |9=>∃g,t = .slice (some ⟨g,0,none⟩) 2 2∧n0≤g∧W.heap[g]? = some (.cells #[.slice (some ⟨g2,0,none⟩) H.roots.length co,.slice (some ⟨g3,0,none⟩) H.mourned.length cm] 22)
 |_=>False
set_option maxHeartbeats 16000000 in
theorem exchangeI_any {OS:List Int} {w wz:World} {P base ga g2 g3 cr co cm:Nat} {vs:Value} {H:Hp} {n8 N lg lc bm nb:Nat} {Db:DataW Unit} {mvs:List Mv} (h:LdI OS w wz P base ga g2 g3 cr co cm vs H n8 (.slice (some ⟨lg,0,none⟩) N lc) N bm nb Db mvs 0 0) (hN:OS.length+2=N) (hNl:N≤2000) (hO:ObsL H OS) (d:Dst w P base ga g2 g3 vs) (h8:w.heap.size≤n8) (hbm:w.heap.size≤bm) (hI:HpI H) (hA:AllI (cmpH H).row) (hln:∀k,k<OS.length+2→lnK H OS k≤maxLen) (hsm:∀m ∈ mvs,m.f≤999∧m.t≤999) (hrs:mvs.Pairwise (fun a b=>a.f<b.f)) :
    Calls Tryz.prog 75 #[.map (some bm),.slice (some ⟨lg,0,none⟩) N lc] wz fun e w'=>e = .returned (.tuple #[])∧LdI OS w w' P base ga g2 g3 cr co cm vs H n8 (.slice (some ⟨lg,0,none⟩) N lc) N bm nb Db mvs N 0:=by
 have HLD0:Hid _:=h
 have HN:Hid _:=hN
 have HOB:Hid _:=hO
 have HDS:Hid _:=d
 have H8:Hid _:=h8
 have HBM:Hid _:=hbm
 have HII:Hid _:=hI
 have HA1:Hid _:=hA
 have HLN:Hid _:=hln
 have HSM:Hid _:=hsm
 have HRS:Hid _:=hrs
 have HZI:Hid (∀w,(zeroValue 2).run Tryz.prog w = .ok (.int .i64 0) w):=fun w=>by go_simp
 clear h hN hO d h8 hbm hI hA hln hsm hrs
 go_enter Tryz.func75,Tryz.ntmps75
 go_wp2_with fail
 go_loopw [5,6,7,8,9,12] (fun _ _ _ _ _ v wz=>∃k:Nat,k≤N∧v = .int .i64 (k:Int)∧LdI OS w wz P base ga g2 g3 cr co cm vs H n8 (.slice (some ⟨lg,0,none⟩) N lc) N bm nb Db mvs k 0) (fun _ _ _ _ _ v _=>N-(intOf v).toNat)
 case atStart=>exact⟨0,Nat.zero_le _,rfl,HLD0.out⟩
 case round=>
  obtain⟨k,hk,rfl,hLd⟩:=hrel
  clear HLD0
  have HLd:Hid _:=hLd
  clear hLd
  by_cases hlt:k<N
  ·have hlt':(k:Int)<(N:Int):=by omega
   have hkO:k<OS.length+2:=by have:=HN.out;omega
   obtain⟨va,vc,evl,hva⟩:= @vlK_is ga g2 g3 co cm H OS k
   have lcell:wr.cell? ⟨lg,k,none⟩=some (.slice va (lnK H OS k) vc):=by
    have q:=World.ownsRow.cellAt HLd.out.ls k (by omega)
    rw[vsK_get hlt,evl]at q
    exact q
   have HVA:Hid _:=hva
   have HSET:Hid (∀i W,i<lnK H OS k→LdI OS w W P base ga g2 g3 cr co cm vs H n8 (.slice (some ⟨lg,0,none⟩) N lc) N bm nb Db mvs k i→LdI OS w (W.setCell ⟨bkK ga g2 g3 k,ofK OS k+i,none⟩ (.int .i64 (nwW mvs (wdK H OS k i)))) P base ga g2 g3 cr co cm vs H n8 (.slice (some ⟨lg,0,none⟩) N lc) N bm nb Db mvs k (i+1)):=fun i W hi h=>h.set HOB.out HDS.out H8.out HBM.out hkO hi
   have HSAM:Hid (∀i W,i<lnK H OS k→LdI OS w W P base ga g2 g3 cr co cm vs H n8 (.slice (some ⟨lg,0,none⟩) N lc) N bm nb Db mvs k i→nwW mvs (wdK H OS k i)=wdK H OS k i→LdI OS w W P base ga g2 g3 cr co cm vs H n8 (.slice (some ⟨lg,0,none⟩) N lc) N bm nb Db mvs k (i+1)):=fun i W hi h hg=>h.same HOB.out hkO hi hg
   have HCEL:Hid (∀i W,i<lnK H OS k→LdI OS w W P base ga g2 g3 cr co cm vs H n8 (.slice (some ⟨lg,0,none⟩) N lc) N bm nb Db mvs k i→W.cell? ⟨bkK ga g2 g3 k,ofK OS k+i,none⟩=some (.int .i64 (wdK H OS k i))∧W.frozen? ⟨bkK ga g2 g3 k,ofK OS k+i,none⟩=false):=fun i W hi h=>h.st.cell HOB.out hkO hi
   have HNXT:Hid (∀W,LdI OS w W P base ga g2 g3 cr co cm vs H n8 (.slice (some ⟨lg,0,none⟩) N lc) N bm nb Db mvs k (lnK H OS k)→LdI OS w W P base ga g2 g3 cr co cm vs H n8 (.slice (some ⟨lg,0,none⟩) N lc) N bm nb Db mvs (k+1) 0):=fun W h=>h.next HOB.out hkO
   have HI6:Hid (∀i,i<lnK H OS k→I64 (wdK H OS k i)):=fun i hi=>wdK_i64 HII.out HA1.out HOB.out hkO hi
   have hLB:lnK H OS k≤9223372036854775807:=by have q:=HLN.out k hkO;unfold maxLen at q;omega
   clear hva evl
   generalize bkK ga g2 g3 k=B0 at *
   generalize ofK OS k=o0 at *
   generalize lnK H OS k=LN at *
   generalize wdK H OS k=xw at *
   go_wp2_with fail
   clear lcell
   go_loopw [6,7,8,9,18] (fun _ _ _ _ v wz=>∃i:Nat,i≤LN∧v = .int .i64 (i:Int)∧LdI OS w wz P base ga g2 g3 cr co cm vs H n8 (.slice (some ⟨lg,0,none⟩) N lc) N bm nb Db mvs k i) (fun _ _ _ _ v _=>LN-(intOf v).toNat)
   case atStart=>exact⟨0,Nat.zero_le _,rfl,HLd.out⟩
   case round=>
    obtain⟨i,hi,rfl,hLi⟩:=hrel
    clear HLd
    have HLi:Hid _:=hLi
    clear hLi
    by_cases hit:i<LN
    ·have hit':(i:Int)<(LN:Int):=by omega
     have eva:=HVA.out (by omega)
     subst eva
     obtain⟨wc,wf⟩:=HCEL.out i _ hit HLi.out
     have HLO:Hid _:=HLi.out.be.look HSM.out HRS.out H (xw i)
     have h64:=HI6.out i hit
     have HKY:Hid (keyOf Tryz.prog 2 (.int .i64 (xw i))=some (.int .i64 (xw i))):=keyOf_int_mk Tryz.underlying2 (WalkArith.wf_i64 h64)
     have HS1:Hid _:=HSET.out i _ hit HLi.out
     have HS2:Hid _:=HSAM.out i _ hit HLi.out
     generalize hxx:xw i=x at *
     cases hh:Maps.has Db (.int .i64 x)
     ·go_wp2_with (at_lookup;refine wpList_lookup_own_ok_int _ rfl _ _ 97 rfl 2 2 .i64 lawK Tryz.underlying97 Tryz.underlying2 (HZI.out _) bm nb Db rfl HLi.out.be.own _ _ rfl HKY.out ?_;intro c hat hwc;rw[hh];clear hat hwc)
      exact⟨⟨i+1,by omega,by go_num,HS2.out (HLO.out.2 hh)⟩,by simp[intOf];omega⟩
     ·go_wp2_with (at_lookup;refine wpList_lookup_own_ok_int _ rfl _ _ 97 rfl 2 2 .i64 lawK Tryz.underlying97 Tryz.underlying2 (HZI.out _) bm nb Db rfl HLi.out.be.own _ _ rfl HKY.out ?_;intro c hat hwc;rw[hh];have HC:Hid (c=nwW mvs x):=by { rw[HLO.out.1 hh]at hat;injection hat with hat;injection hat with _ hat;exact hat.symm };clear hat hwc)
      exact⟨⟨i+1,by omega,by go_num,by rw[HC.out];exact HS1.out⟩,by simp[intOf];omega⟩
    ·have hit':¬(i:Int)<(LN:Int):=by omega
     have e:i=LN:=by omega
     have HE:Hid _:=HNXT.out _ (by rw[e]at HLi;exact HLi.out)
     clear HLi e
     go_wp2_with fail
     exact⟨⟨k+1,by omega,by go_num,HE.out⟩,by simp[intOf];omega⟩
  ·have hlt':¬(k:Int)<(N:Int):=by omega
   have e:k=N:=by omega
   have HE:Hid (LdI OS w wr P base ga g2 g3 cr co cm vs H n8 (.slice (some ⟨lg,0,none⟩) N lc) N bm nb Db mvs N 0):=by
    rw[e]at HLd
    exact HLd.out
   clear HLd
   go_wp2_with fail
   refine bodyPost_end (results_none rfl _ _ _) rfl ⟨rfl,HE.out⟩
set_option maxHeartbeats 32000000 in
theorem leadTo_any {w:World} {P base ga g2 g3 cr co cm mb n b off:Nat} {vs:Value} {H:Hp} {ps r u l:List Int} {D:DataW Value} (hI:HpI H) (R:Rt H ps) (CP:CmP H ps r u l) (d:Dst w P base ga g2 g3 vs)
    (hS:SS w w P base ga g2 g3 cr co cm H.row.length H.roots.length H.mourned.length vs (.slice none 0 0) H [] (cmpH H).row H.roots H.mourned) (hM:MvMap w mb n D (mvL H (2*hf H) u) (wvM b off)) (hn:n≤1000) :
    Calls Tryz.prog 34 #[.pointer (some ⟨P,0,none⟩),.map (some mb)] w fun e w'=>e = .returned (.tuple #[])∧SS w w' P base ga g2 g3 cr co cm H.row.length H.roots.length H.mourned.length vs (.slice none 0 0) H [] (cmpC H).row (cmpC H).roots (cmpC H).mourned:=by
 have hmm:= @run_makeMap Tryz.prog
 have N:=(places_facts R.some').1
 have hrl:=R.len
 obtain⟨sa,sc,rfl,_⟩:=own_ints hS.seen
 have hv:∀k ∈ blk (.slice sa H.seen.length sc),k<w.heap.size:=fun k hk=>(blk_lt hS.seen k hk).2
 obtain⟨F,hF0⟩:∃F,2*hf H=F:=⟨_,rfl⟩
 have HSM:Hid (∀m ∈ mvL H F u,m.f≤999∧m.t≤999):=fun m hm=>by have:=CP.small N m (by rw[hF0];exact hm);omega
 have HRS:Hid ((mvL H F u).Pairwise (fun a b=>a.f<b.f)):=by
  have hris:Rising u:=by
   have:=CP.up
   unfold upW at this
   exact walkO_rising this
  obtain⟨_,s2⟩:=CP.sides R
  refine (mv_riseI u _ (fun p hp => ?_) hris).1
  have:=s2 p hp
  have:=N.half
  omega
 rw[hF0]at hM
 have HGG:Hid (cmpG H=mvL H F u):=by show _=_;rw[CP.g.1,hF0]
 have HOA:Hid (∀k:Nat,k≤999→∀V,Calls Tryz.prog 73 #[.int .i64 (k:Int)] V fun e w'=>e = .returned (.int .i64 (4*(k:Int)+4))∧w'=V):=fun k hk V=>by
  have:=ofAddr_yes (k:Int) (by omega) (by omega) V
  rw[show ((k:Int)+1)*4=4*(k:Int)+4 by omega]at this
  exact this
 have HCP:Hid _:=CP
 have HRR:Hid _:=R
 have HNU:Hid _:=N
 have HDS:Hid _:=d
 have HVS:Hid _:=hv
 have HS0:Hid _:=hS
 have HM:Hid _:=hM
 have HII:Hid _:=hI
 have hmw:=hM.own.lt
 have hPl:=d.lt
 generalize hMV:mvL H F u=mvs at *
 have HMV:Hid _:=hMV
 clear CP R N d hv hS hM hI hF0 hMV
 go_enter Tryz.func34,Tryz.ntmps34
 have HB0:Hid (BeM (w.alloc (.map #[] 0)) w.heap.size 0 (.map []) (fun _=>False)):=⟨World.ownsMap_made w Tryz.prog 2 (plainElem (H:=Unit) Tryz.prog 2),fun kl hk=>by simp[Maps.has]at hk,fun m hm=>hm.elim⟩
 have BX:Below w.heap.size w (w.alloc (.map #[] 0)):=(Below.refl _ _).alloc (Nat.le_refl _) _
 have HMX:Hid (MvMap (w.alloc (.map #[] 0)) mb n D mvs (wvM b off)):=HM.out.kept (World.grownBy_alloc w _ none) (by simp)
 have HBX:Hid _:=BX
 have hXz:w.heap.size<(w.alloc (.map #[] 0)).heap.size:=by simp
 clear BX
 go_upto_region 1 with fail
 generalize (w.alloc (.map #[] 0))=X at *
 go_wp2_with (at_range;refine wpList_range_own _ rfl _ 61 rfl 91 22 mvLaw Tryz.underlying61 _ mb n D rfl HMX.out.own ?_;intro w4 hrg0 hg0 hs0;have HRG0:Hid (RgM w4 mb X.heap.size n D (Maps.has D) (Maps.size D)):=hrg0;have HG0:Hid _:=hg0;clear hrg0 hg0 hs0)
 try go_frame
 have hbmw:w.heap.size≤w.heap.size:=Nat.le_refl _
 obtain⟨bm,hbm⟩:∃bm,w.heap.size=bm:=⟨_,rfl⟩
 have HBM:Hid _:=hbm
 rw[hbm]at HB0 ⊢
 have HB4:Hid (BeM w4 bm 0 (.map []) (fun m=>m ∈ mvs∧Maps.has D (klM m.f m.t)=false)):=(HB0.out.kept HG0.out (by simp)).congr (fun m=>⟨fun h=>h.elim,fun h=>by have:=(HM.out.ats m h.1).1;rw[h.2]at this;cases this⟩)
 have HW4:Hid (Below w.heap.size w w4):=⟨HG0.out.os.trans HBX.out.os,HG0.out.tape.trans HBX.out.tape,HG0.out.output.trans HBX.out.output,Nat.le_trans HBX.out.size HG0.out.size,fun k hk=>(HG0.out.block k (Nat.lt_of_lt_of_le hk HBX.out.size) (by simp)).trans (HBX.out.block k hk)⟩
 have hmb:mb<bm:=by rw[←hbm];exact hmw
 have hbX:bm<X.heap.size:=by rw[←hbm];exact hXz
 clear hbm hbmw HB0 HMX HBX HG0
 go_loopw [5] (fun _ wr=>∃(left:Lit→Bool) (cnt nb:Nat) (Db:DataW Unit),RgM wr mb X.heap.size n D left cnt∧(∀kl,left kl=true→Maps.has D kl=true)∧nb+cnt≤n∧BeM wr bm nb Db (fun m=>m ∈ mvs∧left (klM m.f m.t)=false)∧Below w.heap.size w wr) (fun _ wr=>wr.rangeLeft mb X.heap.size)
 case atStart=>exact⟨_,_,0,.map [],HRG0.out,fun kl h=>h,by rw[Nat.zero_add];exact HM.out.own.size_le,HB4.out,HW4.out⟩
 case round=>
  obtain⟨left,cnt,nb,Db,hrg,hlf,hnc,hBe,hBw⟩:=hrel
  have HRG:Hid _:=hrg
  have HLF:Hid _:=hlf
  have HBe:Hid _:=hBe
  have HBw:Hid _:=hBw
  clear hrg hlf hBe hBw HRG0 HB4 HW4
  go_wp2_with (at_next;refine wpList_next_mv rfl _ rfl 91 mvLaw heldW mb X.heap.size n D left cnt rfl HRG.out ?_ ?_)
  case' refine_2=>
   intro key v kl yd yp w5 cnt5 hkey hlk hv' hat hrg1 hlt1 hg1 hs1 hen
   obtain⟨m,hm,ekl,ekey,ev⟩:=mv_come (y:=(yd,yp)) HM.out (fun x hx=>by have:=HSM.out x hx;omega) HLF.out hkey hlk hv' hat
   subst ekl ekey ev
   obtain⟨mf,mt,mn⟩:=m
   have hsm:=HSM.out _ hm
   simp only at hsm
   obtain⟨left2,hl2⟩:∃left2:Lit→Bool,left2=fun z=>left z && !z.sameKey (klM (mf:Int) (mt:Int)):=⟨_,rfl⟩
   rw[←hl2]at hrg1
   have HRG1:Hid (RgM w5 mb X.heap.size n D left2 cnt5):=hrg1
   have HLF7:Hid (∀kl,left2 kl=true→Maps.has D kl=true):=fun kl h=>HLF.out kl (by rw[hl2]at h;simp only[Bool.and_eq_true]at h;exact h.1)
   have HSC:Hid (∀x,(x ∈ mvs∧left (klM x.f x.t)=false∨x=⟨mf,mt,mn⟩)↔(x ∈ mvs∧left2 (klM x.f x.t)=false)):=fun x=>by
    rw[hl2]
    constructor
    ·rintro (⟨h1,h2⟩|rfl)
     ·exact⟨h1,by show (left (klM x.f x.t)&&_)=false;rw[h2];rfl⟩
     ·exact⟨hm,by show (left _ && !((klM (mf:Int) (mt:Int)).sameKey (klM (mf:Int) (mt:Int))))=false;rw[show (klM (mf:Int) (mt:Int)).sameKey (klM (mf:Int) (mt:Int))=true from (same_kl (a:=⟨mf,mt,mn⟩) (b:=⟨mf,mt,mn⟩) (by show mf≤_∧mt≤_;omega) (by show mf≤_∧mt≤_;omega)).2 rfl];simp⟩
    ·rintro⟨h1,h2⟩
     by_cases e:x=⟨mf,mt,mn⟩
     ·exact .inr e
     ·left
      refine⟨h1,?_⟩
      have h2':(left (klM x.f x.t) && !(klM x.f x.t).sameKey (klM (mf:Int) (mt:Int)))=false:=h2
      rw[Bool.and_eq_false_iff]at h2'
      rcases h2' with h2|h2
      ·exact h2
      ·have h3:(klM x.f x.t).sameKey (klM (mf:Int) (mt:Int))=true:=by simpa using h2
       have q1:=HSM.out _ h1
       have h4:=(same_kl (b:=⟨mf,mt,mn⟩) (by omega) (by show mf≤_∧mt≤_;omega)).1 h3
       exact absurd (mv_one (H:=H) HRS.out h1 hm (kl_inj (b:=⟨mf,mt,mn⟩) (by omega) (by show mf≤_∧mt≤_;omega) h4).1) e
   have HFN:Hid (∀x,(x ∈ mvs∧left (klM x.f x.t)=false)→x.f≠mf):=fun x hx e=>by
    have e2:=mv_one (H:=H) HRS.out hx.1 hm e
    have h2:=hx.2
    rw[e2]at h2
    rw[hlk]at h2
    cases h2
   have hX5:X.heap.size<w5.heap.size:=by rw[hs1];exact World.ranges.lt HRG.out
   have HBe5:Hid _:=HBe.out.kept hg1 (by intro e;injection e with e;omega)
   have HBw5:Hid (Below w.heap.size w w5):=⟨hg1.os.trans HBw.out.os,hg1.tape.trans HBw.out.tape,hg1.output.trans HBw.out.output,Nat.le_trans HBw.out.size hg1.size,fun k hk=>(hg1.block k (Nat.lt_of_lt_of_le hk HBw.out.size) (by intro e;injection e with e;have:=HBM.out;omega)).trans (HBw.out.block k hk)⟩
   have hnb:nb<maxLen:=by unfold maxLen;omega
   have hnb2:nb+1+cnt5≤n:=by omega
   clear hl2 hs1 hkey hv' hat hlk hg1 hrg1
   unfold wvM at hen ⊢
   simp only at hen ⊢
   go_upto_region 4 with fail
   have B6:Below w5.heap.size w5 (w5.alloc (.cells #[.int .i64 (mf:Int),.int .i64 (mt:Int)] 91)):=(Below.refl _ _).alloc (Nat.le_refl _) _
   have c60:(w5.alloc (.cells #[.int .i64 (mf:Int),.int .i64 (mt:Int)] 91)).cell? ⟨w5.heap.size,0,none⟩=some (.int .i64 (mf:Int)):=by simp
   have c61:(w5.alloc (.cells #[.int .i64 (mf:Int),.int .i64 (mt:Int)] 91)).cell? ⟨w5.heap.size,1,none⟩=some (.int .i64 (mt:Int)):=by simp
   have HRG6:Hid (RgM _ mb X.heap.size n D left2 cnt5):=World.ranges.alloc HRG1.out (.cells #[.int .i64 (mf:Int),.int .i64 (mt:Int)] 91)
   have HBe6:Hid _:=HBe5.out.kept (World.grownBy_alloc w5 (.cells #[.int .i64 (mf:Int),.int .i64 (mt:Int)] 91) none) (by simp)
   have HBw6:Hid _:=HBw5.out.trans (B6.mono HBw5.out.size)
   clear B6 hen HBe5 HBw5 HRG1
   generalize (w5.alloc (.cells #[.int .i64 (mf:Int),.int .i64 (mt:Int)] 91))=w6 at *
   generalize w5.heap.size=mB at *
   have HBE6:Hid (∀W,Below w6.heap.size w6 W→W.ownsMap Tryz.prog 2 (plainElem (H:=Unit) Tryz.prog 2) bm nb Db):=fun W hW=>(HBe6.out.kept (row:=none) ⟨hW.os,hW.tape,hW.output,hW.size,fun k hk _=>hW.block k hk⟩ (by simp)).own
   have HSTEP:Hid (∀W W',Below w6.heap.size w6 W→W'.ownsMap Tryz.prog 2 (plainElem (H:=Unit) Tryz.prog 2) bm (nb+1) (Db.put (.int .i64 (4*(mf:Int)+4)) (.lit (.int .i64 (4*(mt:Int)+4))))→W.grownBy W' (some bm)→RgM W' mb X.heap.size n D left2 cnt5∧BeM W' bm (nb+1) (Db.put (.int .i64 (4*(mf:Int)+4)) (.lit (.int .i64 (4*(mt:Int)+4)))) (fun m=>m ∈ mvs∧left2 (klM m.f m.t)=false)∧Below w.heap.size w W'):=fun W W' hW ho hg=>by
    have gW:w6.grownBy W none:=⟨hW.os,hW.tape,hW.output,hW.size,fun k hk _=>hW.block k hk⟩
    refine⟨World.ranges.kept (World.ranges.kept HRG6.out gW (by simp) (by simp)) hg (fun e=>by injection e with e;omega) (fun e=>by injection e with e;omega),((HBe6.out.kept gW (by simp)).more (m:=⟨mf,mt,mn⟩) HFN.out ho).congr HSC.out,?_⟩
    have b1:=HBw6.out.trans (hW.mono HBw6.out.size)
    exact⟨hg.os.trans b1.os,hg.tape.trans b1.tape,hg.output.trans b1.output,Nat.le_trans b1.size hg.size,fun k hk=>(hg.block k (Nat.lt_of_lt_of_le hk b1.size) (by intro e;injection e with e;have:=HBM.out;omega)).trans (b1.block k hk)⟩
   generalize hA0:(Act.mk _ [])=A0
   have e4:A0.tmps.getD 4 undef = .map (some bm):=by rw[←hA0];rfl
   have e5:A0.tmps.getD 5 undef = .pointer (some ⟨mB,0,none⟩):=by rw[←hA0];rfl
   have sz:A0.tmps.size=58:=by rw[←hA0];rfl
   refine wp_region_last (by kernel_rfl) DLe4 (by simp) ?_ 7 rfl dLe4 dLe4_inj (FLe4 bm mB mf mt) ?_ ?_ ?_ ?_
   ·intro k o ho
    have hk:k<8:=(Array.getElem?_eq_some_iff.1 ho).1
    rcases (show k=0∨k=1∨k=2∨k=3∨k=4∨k=5∨k=6∨k=7 by omega) with rfl|rfl|rfl|rfl|rfl|rfl|rfl|rfl<;>(obtain rfl:=Option.some.inj ho;simp)
   ·intro k t W W' hb h
    match k,h with
    |0,h=>exact h
    |1,h=>exact h
    |2,h=>exact h
    |3,h=>exact h
    |4,h=>exact h
    |5,h=>exact h
    |6,h=>exact h
    |_+7,h=>exact h.elim
   ·intro l hC kk hkk
    have CL:=hC 7 _ rfl (fun h=>by omega)
    have l0:l 0=true:=CL ⟨0,.data⟩ (by simp) (by simp[Region.binds])
    have l3:l 3=true:=CL ⟨3,.data⟩ (by simp) (by simp[Region.binds])
    have l6:l 6=true:=CL ⟨6,.data⟩ (by simp) (by simp[Region.binds])
    have l2:l 2=true:=hC 3 _ rfl (fun _=>l3) ⟨2,.data⟩ (by simp) (by simp[Region.binds])
    have l1:l 1=true:=hC 2 _ rfl (fun _=>l2) ⟨1,.data⟩ (by simp) (by simp[Region.binds])
    have l5:l 5=true:=hC 6 _ rfl (fun _=>l6) ⟨5,.data⟩ (by simp) (by simp[Region.binds])
    have l4:l 4=true:=hC 5 _ rfl (fun _=>l5) ⟨4,.data⟩ (by simp) (by simp[Region.binds])
    rcases (show kk=0∨kk=1∨kk=2∨kk=3∨kk=4∨kk=5∨kk=6 by omega) with rfl|rfl|rfl|rfl|rfl|rfl|rfl
    ·exact l0
    ·exact l1
    ·exact l2
    ·exact l3
    ·exact l4
    ·exact l5
    ·exact l6
   ·intro k o u W hk ho hB hF
    have ev:∀s,DLe4 s=true→s<58→(ovr DLe4 A0 u).tmps[s]?.getD undef=u s:=fun s h1 h2=>(getD_at _ _).symm.trans (eval_in h1 (by omega))
    have o4:(ovr DLe4 A0 u).tmps[4]?.getD undef=_:=(getD_at _ _).symm.trans ((eval_out (D:=DLe4) (a0:=A0) (u:=u) (s:=4) rfl (by omega)).trans e4)
    have o5:(ovr DLe4 A0 u).tmps[5]?.getD undef=_:=(getD_at _ _).symm.trans ((eval_out (D:=DLe4) (a0:=A0) (u:=u) (s:=5) rfl (by omega)).trans e5)
    have cm0:=(hB.cell (p:=⟨mB,0,none⟩) (World.block_lt_of_cell? _ _ c60)).trans c60
    have cm1:=(hB.cell (p:=⟨mB,1,none⟩) (World.block_lt_of_cell? _ _ c61)).trans c61
    rcases (show k=0∨k=1∨k=2∨k=3∨k=4∨k=5∨k=6 by omega) with rfl|rfl|rfl|rfl|rfl|rfl|rfl
    all_goals obtain rfl:=Option.some.inj ho
    ·refine plainV (v:=.map (some bm)) rfl rfl ?_ rfl
     simp only[execOp]
     go_simp
     try go_num
     try (rw[IntKind.wrap_i64];omega)
    ·refine plainV (v:=.pointer (some ⟨mB,0,none⟩)) rfl rfl ?_ rfl
     simp only[execOp]
     go_simp
     try go_num
     try (rw[IntKind.wrap_i64];omega)
    ·have x1:=(ev 19 rfl (by decide)).trans (hF 1 (by decide) (by simp[Region.binds]))
     refine plainV (v:=.int .i64 (mf:Int)) rfl rfl ?_ rfl
     simp only[execOp]
     go_simp
     try go_num
     try (rw[IntKind.wrap_i64];omega)
    ·have x2:=(ev 20 rfl (by decide)).trans (hF 2 (by decide) (by simp[Region.binds]))
     refine plainC (f:=73) (args:=#[.int .i64 (mf:Int)]) rfl rfl ?_ ((HOA.out mf (by omega) W).mono ?_)
     ·simp only[execOp]
      go_simp
     ·rintro e w' ⟨rfl,rfl⟩
      exact⟨_,rfl,Below.refl _ _,rfl⟩
    ·refine plainV (v:=.pointer (some ⟨mB,1,none⟩)) rfl rfl ?_ rfl
     simp only[execOp]
     go_simp
     try go_num
     try (rw[IntKind.wrap_i64];omega)
    ·have x4:=(ev 22 rfl (by decide)).trans (hF 4 (by decide) (by simp[Region.binds]))
     refine plainV (v:=.int .i64 (mt:Int)) rfl rfl ?_ rfl
     simp only[execOp]
     go_simp
     try go_num
     try (rw[IntKind.wrap_i64];omega)
    ·have x5:=(ev 23 rfl (by decide)).trans (hF 5 (by decide) (by simp[Region.binds]))
     refine plainC (f:=73) (args:=#[.int .i64 (mt:Int)]) rfl rfl ?_ ((HOA.out mt (by omega) W).mono ?_)
     ·simp only[execOp]
      go_simp
     ·rintro e w' ⟨rfl,rfl⟩
      exact⟨_,rfl,Below.refl _ _,rfl⟩
   ·intro o u W ho hB hF
    obtain rfl:=Option.some.inj ho
    have ev:∀s,DLe4 s=true→s<58→(ovr DLe4 A0 u).tmps[s]?.getD undef=u s:=fun s h1 h2=>(getD_at _ _).symm.trans (eval_in h1 (by omega))
    have o4:(ovr DLe4 A0 u).tmps[4]?.getD undef=_:=(getD_at _ _).symm.trans ((eval_out (D:=DLe4) (a0:=A0) (u:=u) (s:=4) rfl (by omega)).trans e4)
    have o5:(ovr DLe4 A0 u).tmps[5]?.getD undef=_:=(getD_at _ _).symm.trans ((eval_out (D:=DLe4) (a0:=A0) (u:=u) (s:=5) rfl (by omega)).trans e5)
    have cm0:=(hB.cell (p:=⟨mB,0,none⟩) (World.block_lt_of_cell? _ _ c60)).trans c60
    have cm1:=(hB.cell (p:=⟨mB,1,none⟩) (World.block_lt_of_cell? _ _ c61)).trans c61
    have x0:=(ev 18 rfl (by decide)).trans (hF 0 (by decide))
    have x3:=(ev 21 rfl (by decide)).trans (hF 3 (by decide))
    have x6:=(ev 24 rfl (by decide)).trans (hF 6 (by decide))
    obtain⟨W2,hrun,r1,r2⟩:=World.ownsMap.update (HBE6.out W hB) lawK Tryz.underlying97 hnb (keyOf_int_mk Tryz.underlying2 (i64_wfI (show 0≤4*(mf:Int)+4∧4*(mf:Int)+4≤100000 by omega))) (plainElem_int (H:=Unit) Tryz.underlying2 (i64_wfI (show 0≤4*(mt:Int)+4∧4*(mt:Int)+4≤100000 by omega)))
    refine plainS (W':=W2) rfl ?_ ?_
    ·simp only[execOp]
     go_simp
     all_goals (simp[hrun,Result.andThen])
    obtain⟨K1,K2,K3⟩:=HSTEP.out W W2 hB r1 r2
    have HK1:Hid _:=K1
    have HK2:Hid _:=K2
    have HK3:Hid _:=K3
    clear K1 K2 K3 r1 r2 hrun cm0 cm1 hF x0 x3 x6 ev o4 o5 e4 e5 sz
    subst hA0
    simp[ovr,DLe4,List.range,List.range.loop]
    go_wp2
    exact⟨⟨_,_,_,_,HK1.out,HLF7.out,hnb2,HK2.out,HK3.out⟩,by rw[World.ranges.left_eq HK1.out,World.ranges.left_eq HRG.out];exact hlt1⟩
  intro _ hl0
  have HBF:Hid (BeM wr bm nb Db (fun m=>m ∈ mvs)):=HBe.out.congr (fun m=>⟨fun h=>h.1,fun h=>⟨h,hl0 _⟩⟩)
  clear hl0 HBe HLF HRG
  have HSr:Hid _:=SS.below HS0.out HBw.out
  have hl1:(cmpH H).row.length=H.row.length:=HCP.out.len1
  have HNB:Hid (numB (cmpH H)=true):=HCP.out.numB1
  have HA1:Hid (AllI (cmpH H).row):=HCP.out.all1 HNU.out HII.out.2.1
  have HRB:Hid (roomB (some ⟨ga,0,none⟩) (cmpH H)=true):=roomB_of HNB.out HCP.out.plc
  have RO:=(roomsOf_any (w:=wr) (H:=cmpH H) (a1:=some ⟨ga,0,none⟩) (c1:=cr) (a2:=some ⟨g2,0,none⟩) (c2:=co) (a3:=some ⟨g3,0,none⟩) (c3:=cm) (a4:=sa) (c4:=sc) (SS.hp HSr.out) HNB.out HA1.out).mono (fun e w' (hh:_∧_∧_)=>(⟨hh.2.1 HRB.out,hh.2.2⟩:(∃v',e = .returned (.tuple #[.agg #[.int .i64 (2*(cmpH H).half),v'],.bool true])∧OwnP w' wr.heap.size v' (objsP (some ⟨ga,0,none⟩) (cmpH H)))∧Below wr.heap.size wr w'))
  have RO':Calls Tryz.prog 74 #[hpv H (.slice (some ⟨ga,0,none⟩) H.row.length cr) (.slice (some ⟨g2,0,none⟩) H.roots.length co) (.slice (some ⟨g3,0,none⟩) H.mourned.length cm) (.slice sa H.seen.length sc)] wr fun e w'=>(∃v',e = .returned (.tuple #[.agg #[.int .i64 (2*H.half),v'],.bool true])∧OwnP w' wr.heap.size v' (objsP (some ⟨ga,0,none⟩) (cmpH H)))∧Below wr.heap.size wr w':=by
   rw[←hl1]
   exact RO
  clear RO
  obtain⟨ds,hds⟩:∃ds,objsP (some ⟨ga,0,none⟩) (cmpH H)=ds:=⟨_,rfl⟩
  rw[hds]at RO'
  have HDS2:Hid _:=hds
  clear hds
  unfold hpv at RO'
  obtain⟨⟨z0,z1,z2,z3,z4⟩,⟨z5,z6,z7,z8⟩,_⟩:=nine_cells HSr.out.nine
  go_upto_region 6 with (go_at_call 74;refine RO'.mono ?_;clear RO' z0 z1 z2 z3 z4 z5 z6 z7 z8;rintro e w7 ⟨⟨v7,rfl,O7⟩,b7⟩;have HB7:Hid _:=b7;have HO7:Hid _:=O7;obtain⟨a5,c5,rfl⟩:=pds_slice (ownP_at O7);clear b7 O7)
  have B8:Below w7.heap.size w7 (w7.alloc (.cells #[.int .i64 (2*H.half),.slice a5 ds.length c5] 55)):=(Below.refl _ _).alloc (Nat.le_refl _) _
  have HRM:Hid _:=heap_alloc_new w7 (.cells #[.int .i64 (2*H.half),.slice a5 ds.length c5] 55)
  have HS8:Hid _:=(SS.below HSr.out HB7.out).below B8
  have HBF8:Hid _:=((HBF.out.kept (row:=none) ⟨HB7.out.os,HB7.out.tape,HB7.out.output,HB7.out.size,fun k hk _=>HB7.out.block k hk⟩ (by simp)).kept (World.grownBy_alloc w7 (.cells #[.int .i64 (2*H.half),.slice a5 ds.length c5] 55) none) (by simp))
  have HO8:Hid _:=pdsAt_below (ownP_at HO7.out) B8
  clear B8 HSr HB7 HBF HO7 HBw
  have hr8:=lt_of_block HRM.out
  generalize w7.alloc (.cells #[.int .i64 (2*H.half),.slice a5 ds.length c5] 55)=w8 at *
  generalize w7.heap.size=rB at *
  generalize hA0:(Act.mk _ [])=A0
  have e0:A0.tmps.getD 0 undef = .pointer (some ⟨P,0,none⟩):=by rw[←hA0];rfl
  have sz:A0.tmps.size=58:=by rw[←hA0];rfl
  have ed:A0.defers=[]:=by rw[←hA0]
  refine wp_region_guardedB (by kernel_rfl) DLe6 RelG relG_trans (relG_drew _) (by
      intro k o ho
      have hk:k<10:=(Array.getElem?_eq_some_iff.1 ho).1
      rcases (show k=0∨k=1∨k=2∨k=3∨k=4∨k=5∨k=6∨k=7∨k=8∨k=9 by omega) with rfl|rfl|rfl|rfl|rfl|rfl|rfl|rfl|rfl|rfl<;>(obtain rfl:=Option.some.inj ho;simp[Region.binds])) 10 rfl dLe6 dLe6_inj (FLe6 H P g2 g3 co cm w8.heap.size) ?_ ?_ ?_
  ·intro j t W W' hR h
   match j,h with
   |0,h=>exact h
   |1,h=>exact h
   |2,h=>exact h
   |3,h=>exact h
   |4,h=>exact h
   |5,h=>exact h
   |6,h=>exact h
   |7,h=>exact h
   |8,h=>exact by obtain⟨g,e,hg,hb⟩:=h;exact⟨g,e,hg,(hR.block g (lt_of_block hb)).trans hb⟩
   |9,h=>exact by obtain⟨g,e,hg,hb⟩:=h;exact⟨g,e,hg,(hR.block g (lt_of_block hb)).trans hb⟩
   |_+10,h=>exact h.elim
  ·intro j o u W hj ho hR hF
   have ev:∀s,DLe6 s=true→s<58→(ovr DLe6 A0 u).tmps[s]?.getD undef=u s:=fun s h1 h2=>(getD_at _ _).symm.trans (eval_in h1 (by omega))
   have o0:(ovr DLe6 A0 u).tmps[0]?.getD undef=_:=(getD_at _ _).symm.trans ((eval_out (D:=DLe6) (a0:=A0) (u:=u) (s:=0) rfl (by omega)).trans e0)
   obtain⟨-, ⟨z5,z6,-, -⟩,-⟩:=nine_cells (nine_below HS8.out.nine hR)
   rcases (show j=0∨j=1∨j=2∨j=3∨j=4∨j=5∨j=6∨j=7∨j=8∨j=9 by omega) with rfl|rfl|rfl|rfl|rfl|rfl|rfl|rfl|rfl|rfl
   all_goals obtain rfl:=Option.some.inj ho
   ·refine tellVw (v:=.pointer (some ⟨P,0,none⟩)) (wanted_none rfl) ?_ ?_ ?_ (relG_refl _) ?_
    ·exact rfl
    ·exact rfl
    ·simp only[execOp]
     go_simp
     try go_num
     try (rw[IntKind.wrap_i64];omega)
    ·exact rfl
   ·have x0:=(ev 32 rfl (by decide)).trans (hF 0 (by decide) (by simp[Region.binds]))
    refine tellVw (v:=.pointer (some ⟨P,0,none⟩)) (wanted_none rfl) ?_ ?_ ?_ (relG_refl _) ?_
    ·exact rfl
    ·exact rfl
    ·simp only[execOp]
     go_simp
     try go_num
     try (rw[IntKind.wrap_i64];omega)
    ·exact rfl
   ·have x1:=(ev 33 rfl (by decide)).trans (hF 1 (by decide) (by simp[Region.binds]))
    refine tellVw (v:=.pointer (some ⟨P,5,none⟩)) (wanted_none rfl) ?_ ?_ ?_ (relG_refl _) ?_
    ·exact rfl
    ·exact rfl
    ·simp only[execOp]
     go_simp
     try go_num
     try (rw[IntKind.wrap_i64];omega)
    ·exact rfl
   ·have x2:=(ev 34 rfl (by decide)).trans (hF 2 (by decide) (by simp[Region.binds]))
    refine tellVw (v:=.slice (some ⟨g2,0,none⟩) H.roots.length co) (wanted_none rfl) ?_ ?_ ?_ (relG_refl _) ?_
    ·exact rfl
    ·exact rfl
    ·simp only[execOp]
     go_simp
     try go_num
     try (rw[IntKind.wrap_i64];omega)
    ·exact rfl
   ·refine tellVw (v:=.pointer (some ⟨P,0,none⟩)) (wanted_none rfl) ?_ ?_ ?_ (relG_refl _) ?_
    ·exact rfl
    ·exact rfl
    ·simp only[execOp]
     go_simp
     try go_num
     try (rw[IntKind.wrap_i64];omega)
    ·exact rfl
   ·have x4:=(ev 36 rfl (by decide)).trans (hF 4 (by decide) (by simp[Region.binds]))
    refine tellVw (v:=.pointer (some ⟨P,0,none⟩)) (wanted_none rfl) ?_ ?_ ?_ (relG_refl _) ?_
    ·exact rfl
    ·exact rfl
    ·simp only[execOp]
     go_simp
     try go_num
     try (rw[IntKind.wrap_i64];omega)
    ·exact rfl
   ·have x5:=(ev 37 rfl (by decide)).trans (hF 5 (by decide) (by simp[Region.binds]))
    refine tellVw (v:=.pointer (some ⟨P,6,none⟩)) (wanted_none rfl) ?_ ?_ ?_ (relG_refl _) ?_
    ·exact rfl
    ·exact rfl
    ·simp only[execOp]
     go_simp
     try go_num
     try (rw[IntKind.wrap_i64];omega)
    ·exact rfl
   ·have x6:=(ev 38 rfl (by decide)).trans (hF 6 (by decide) (by simp[Region.binds]))
    refine tellVw (v:=.slice (some ⟨g3,0,none⟩) H.mourned.length cm) (wanted_none rfl) ?_ ?_ ?_ (relG_refl _) ?_
    ·exact rfl
    ·exact rfl
    ·simp only[execOp]
     go_simp
     try go_num
     try (rw[IntKind.wrap_i64];omega)
    ·exact rfl
   ·have x3:=(ev 35 rfl (by decide)).trans (hF 3 (by decide) (by simp[Region.binds]))
    have x7:=(ev 39 rfl (by decide)).trans (hF 7 (by decide) (by simp[Region.binds]))
    refine tellVB (v:=.slice (some ⟨W.heap.size,0,none⟩) 2 2) (W':=W.alloc (.cells #[.slice (some ⟨g2,0,none⟩) H.roots.length co,.slice (some ⟨g3,0,none⟩) H.mourned.length cm] 22)) (wanted_none rfl) rfl rfl ?_ ((Below.refl _ _).alloc (Nat.le_refl _) _) ⟨W.heap.size,rfl,hR.size,heap_alloc_new _ _⟩
    simp only[execOp]
    go_simp
   ·obtain⟨g,ea,hg,hb⟩:=hF 8 (by decide) (by simp[Region.binds])
    have x8:=(ev 40 rfl (by decide)).trans ea
    refine tellVw (v:=.slice (some ⟨g,0,none⟩) 2 2) (wanted_none rfl) rfl rfl ?_ (relG_refl _) ⟨g,rfl,hg,hb⟩
    simp only[execOp]
    go_simp
  ·intro u W hR hF
   have f8:=hF 8 (by decide)
   have f9:=hF 9 (by decide)
   obtain⟨gx,ex,_,_⟩:=f8
   obtain⟨gl,el,hgl,hbl⟩:=f9
   have ex:u 40=_:=ex
   have el:u 8=_:=el
   have h32:u 32=_:=hF 0 (by decide)
   have h33:u 33=_:=hF 1 (by decide)
   have h34:u 34=_:=hF 2 (by decide)
   have h35:u 35=_:=hF 3 (by decide)
   have h36:u 36=_:=hF 4 (by decide)
   have h37:u 37=_:=hF 5 (by decide)
   have h38:u 38=_:=hF 6 (by decide)
   have h39:u 39=_:=hF 7 (by decide)
   have HGL:Hid _:=hbl
   have HRW:Hid (Below w8.heap.size w8 W):=hR
   clear hF hbl hR sz ed e0
   subst hA0
   simp[ovr,DLe6,List.range,List.range.loop,ex,el,h32,h33,h34,h35,h36,h37,h38,h39]
   clear ex el h32 h33 h34 h35 h36 h37 h38 h39
   obtain⟨OS,hOS⟩:∃OS,objL (cmpH H) (r++l)=OS:=⟨_,rfl⟩
   have HOB:Hid (ObsL H OS):=by have:=cmp_obs HCP.out;rw[hOS]at this;exact this
   have HSC:Hid (∀i,i<ds.length→∀V,Calls Tryz.prog 63 #[cv (ds.getD i pdD).s (ds.getD i pdD).f (ds.getD i pdD).c (ds.getD i pdD).h (ds.getD i pdD).p (ds.getD i pdD).m (ds.getD i pdD).u] V fun e w'=>e = .returned (vlK ga g2 g3 co cm H OS (i+2))∧Below V.heap.size V w'):=fun i hi V=>by
    have q:=slots_vl (ga:=ga) (g2:=g2) (g3:=g3) (co:=co) (cm:=cm) HCP.out (by omega) (i:=i) (by rw[HDS2.out];exact hi) V
    rw[HDS2.out,hOS]at q
    exact q
   have HDO:Hid (ds.length=OS.length):=by
    show _=_
    have q:=objs_placesR (a:=some ⟨ga,0,none⟩) HNB.out HCP.out.plc
    rw[HDS2.out,hOS]at q
    rw[←q]
    unfold plL
    rw[List.length_map]
   have HRV:Hid (RoomsAt w8 (.slice a5 ds.length c5) ds (slP (cmpH H).row)):=by
    have q:=roomsAt_of (a:=some ⟨ga,0,none⟩) (c:=cr) (H:=cmpH H) (SS.hp HS8.out).1 HNB.out HRB.out HA1.out (v:=.slice a5 ds.length c5) (by rw[HDS2.out];exact HO8.out)
    rw[HDS2.out]at q
    exact q
   have hdl:=HRV.out.len
   have HL0:Hid (W.ownsRow w8.heap.size 22 1 (.slice (some ⟨gl,0,none⟩) 2 2) (0+2) (vsK ga g2 g3 co cm H OS (0+2))):=⟨rfl,.inr ⟨gl,2,#[.slice (some ⟨g2,0,none⟩) H.roots.length co,.slice (some ⟨g3,0,none⟩) H.mourned.length cm],rfl,hgl,HGL.out,Nat.le_refl _,by decide,rfl,rfl⟩⟩
   have HOS:Hid _:=hOS
   have hrw:rB<w8.heap.size:=hr8
   clear hOS HGL HO8 HDS2 HRB
   have HBW0:Hid (Below w8.heap.size w8 W):=HRW.out
   have HRX:Hid _:=(HRW.out.block _ hrw).trans HRM.out
   have k0:W.cell? ⟨rB,1,none⟩=some (.slice a5 ds.length c5):=(rmb_cells HRX.out).1.2
   go_wp2_with fail
   clear k0 HRX
   go_loopw [8,10,44] (fun v8 _ v wr=>∃y:Nat,y≤ds.length∧v = .int .i64 (y:Int)∧∃u8,u8=v8∧wr.ownsRow w8.heap.size 22 1 u8 (y+2) (vsK ga g2 g3 co cm H OS (y+2))∧Below w8.heap.size w8 wr) (fun _ _ v _=>ds.length-(intOf v).toNat)
   case atStart=>exact⟨0,Nat.zero_le _,rfl,_,rfl,HL0.out,HBW0.out⟩
   case round=>
    obtain⟨y,hy,rfl,u8,rfl,hLL,hB⟩:=hrel
    clear HL0 HBW0 HRW
    have HLL:Hid _:=hLL
    have HBR:Hid _:=hB
    have hszr:=hB.size
    by_cases hlt:y<ds.length
    ·have hlt':(y:Int)<(ds.length:Int):=by omega
     obtain⟨_,_,ev,_,_,_,hcs⟩:=pdsAt_below HRV.out.pds HBR.out
     injection ev with ev1 _ ev3
     subst ev1 ev3
     obtain⟨mg,mo,ev4,hmg,hcell⟩:=hcs (by omega)
     subst ev4
     obtain⟨p0,p1,p2,p3,p4,p5,p6,p7⟩:=hcell y hlt
     have HUC:Hid _:=HSC.out y hlt
     obtain⟨ua,uc,euv,_⟩:= @vlK_is ga g2 g3 co cm H OS (y+2)
     have HNX:Hid _:= @vsK_next ga g2 g3 co cm H OS (y+2)
     rw[euv]at HUC HNX
     generalize lnK H OS (y+2)=un at *
     obtain⟨sa',sn',sc',hsv⟩:=HRV.out.slices _ (mem_getDP hlt)
     obtain⟨d,hd⟩:∃d,ds.getD y pdD=d:=⟨_,rfl⟩
     rw[hd]at p0 p1 p2 p3 p4 p5 p6 p7 HUC hsv
     obtain⟨es',ef,ec,eh,ep,em,eu,el⟩:=d
     simp only at p0 p1 p2 p3 p4 p5 p6 p7 hsv HUC
     subst hsv
     clear hB hd hcs hcell hLL euv
     have hvl:(vsK ga g2 g3 co cm H OS (y+2)).length=y+2:=vsK_len
     obtain⟨lk2,hlk2⟩:∃lk2,vsK ga g2 g3 co cm H OS (y+2+1)=lk2:=⟨_,rfl⟩
     rw[hlk2]at HNX
     have HLK:Hid (vsK ga g2 g3 co cm H OS (y+1+2)=lk2):=hlk2
     clear hlk2
     generalize vsK ga g2 g3 co cm H OS (y+2)=lk at *
     go_upto_region 10 with fail
     clear p0 p1 p2 p3 p4 p5 p6 p7
     have BY:Below wr.heap.size wr (wr.alloc (pdb ⟨es',ef,ec,eh,ep,em,.slice sa' sn' sc',el⟩)):=(Below.refl _ _).alloc (Nat.le_refl _) _
     have HQY:Hid _:=heap_alloc_new wr (pdb ⟨es',ef,ec,eh,ep,em,.slice sa' sn' sc',el⟩)
     have HBY:Hid _:=HBR.out.trans (BY.mono hszr)
     have HLY:Hid _:=row_ch (S:=[]) HLL.out (ch_below BY) (by simp)
     obtain⟨⟨p0,p1,p2,p3,p4,p5,p6,p7⟩,_⟩:=pdb_cells HQY.out
     simp only at p0 p1 p2 p3 p4 p5 p6 p7
     clear BY
     generalize wr.alloc (pdb ⟨es',ef,ec,eh,ep,em,.slice sa' sn' sc',el⟩)=Y at *
     have SC:=HUC.out Y
     obtain⟨i0,hi,hz0,hz1,hz2⟩:=info_parts infoL
     have HI0:Hid _:=And.intro hi (And.intro hz0 (And.intro hz1 hz2))
     have HAFT:Hid (∀w5,Below Y.heap.size Y w5→∃(g c:Nat),u8 = .slice (some ⟨g,0,none⟩) (y+2) c∧(w5.alloc (.cells #[.slice ua un uc] 22)).ownsRow w8.heap.size 22 1 (.slice (some ⟨g,0,none⟩) (y+2) c) (y+2) lk∧w8.heap.size≤(w5.alloc (.cells #[.slice ua un uc] 22)).heap.size∧(∀i u,[Value.slice ua un uc][i]? = some u→(w5.alloc (.cells #[.slice ua un uc] 22)).cell? ((⟨w5.heap.size,0,none⟩:Addr).add i)=some u)∧∀v' w6,w6.ownsRow w8.heap.size 22 1 v' (y+2+1) (lk++[.slice ua un uc])→(w5.alloc (.cells #[.slice ua un uc] 22)).grownBy w6 (some g)→(∃va vn vc,v' = .slice va vn vc)∧w6.ownsRow w8.heap.size 22 1 v' (y+1+2) lk2∧Below w8.heap.size w8 w6):=fun w5 b5=>by
      have h2:=row_ch (S:=[]) HLY.out (ch_below b5) (by simp)
      have B6:Below w8.heap.size w8 (w5.alloc (.cells #[.slice ua un uc] 22)):=(HBY.out.trans (b5.mono HBY.out.size)).alloc (Nat.le_trans HBY.out.size b5.size) _
      have h2':=row_ch (S:=[]) h2 (ch_below ((Below.refl w5.heap.size w5).alloc (Nat.le_refl _) (.cells #[.slice ua un uc] 22))) (by simp)
      have h2k:=h2
      obtain⟨_,⟨e1,e2⟩|⟨g,c,cur,e1,hg,_⟩⟩:=h2
      ·omega
      ·rw[e1]at h2'
       refine⟨g,c,e1,h2',B6.size,World.news_of_block (heap_alloc_new w5 (.cells #[.slice ua un uc] 22)),fun v' w6 o6 g6=>⟨?_,?_,?_⟩⟩
       ·obtain⟨_,⟨f1,f2⟩|⟨g',c',cur',f1,_⟩⟩:=o6
        ·omega
        ·exact⟨_,_,_,f1⟩
       ·rw[HNX.out];exact o6
       ·exact B6.grown g6 B6.size (fun k hk=>by injection hk with hk;omega)
     clear HLY HLL
     go_wp2_with (first
      |(go_at_call 63;refine SC.mono ?_;clear SC;rintro e w5 ⟨rfl,b5⟩;obtain⟨ag,ac,eu3,hown5,hba,hnw,haft⟩:=HAFT.out w5 b5;subst eu3;have HOW:Hid _:=hown5;have HNW:Hid _:=hnw;have HAF:Hid _:=haft;clear b5 HAFT hown5 hnw haft)
      |(refine wpList_append_own_at _ rfl (.tmp 48) (.tmp 52) 85 rfl w8.heap.size 22 i0 (.slice none 0 0) 1 24 Tryz.underlying85 HI0.out.1 HI0.out.2.1 HI0.out.2.2.1 HI0.out.2.2.2 rfl (by decide) (.slice (some ⟨ag,0,none⟩) (y+2) ac) (y+2) lk rfl HOW.out ⟨w5.heap.size,0,none⟩ 1 1 [.slice ua un uc] rfl rfl HNW.out (by simp[Value.oneCell']) (by unfold maxLen;omega) (by omega) hba ?_;intro v' w6 hown6 hgrow6 _ hat6;obtain⟨⟨va,vn,vc,rfl⟩,st⟩:=HAF.out v' w6 hown6 hgrow6;have HST:Hid _:=st;clear st hown6 hgrow6 hat6))
     exact⟨⟨y+1,by omega,by go_num,_,rfl,by rw[HLK.out];exact HST.out.1,HST.out.2⟩,by simp[intOf];omega⟩
    ·have hlt':¬(y:Int)<(ds.length:Int):=by omega
     have e:y=ds.length:=by omega
     subst e
     clear hB hLL
     have HN0:Hid (W.ownsRow w8.heap.size 22 1 u8 (ds.length+2) (vsK ga g2 g3 co cm H OS (ds.length+2))→True):=fun _=>trivial
     obtain⟨lg,lc,eu8⟩:∃lg lc,u8 = .slice (some ⟨lg,0,none⟩) (ds.length+2) lc:=by
      obtain⟨_,⟨e1,e2⟩|⟨g,c,cur,e1,hg,_⟩⟩:=HLL.out
      ·omega
      ·exact⟨g,c,e1⟩
     subst eu8
     have HST0:Hid (St (nwW mvs) OS w wr P base ga g2 g3 cr co cm (.slice sa H.seen.length sc) H 0 0):=by
      have q:=SS.below HS8.out HBR.out
      unfold St
      rw[show stO (nwW mvs) H 0 0=H.roots from mapI_zero _ _]
      exact q
     have HBE9:Hid (BeM wr bm nb Db (fun m=>m ∈ mvs)):=HBF8.out.kept (row:=none) ⟨HBR.out.os,HBR.out.tape,HBR.out.output,HBR.out.size,fun k hk _=>HBR.out.block k hk⟩ (by simp)
     have hw8:w.heap.size≤w8.heap.size:=HS8.out.ch.size
     clear HN0 HS8 HBF8
     have HZI:Hid (∀w,(zeroValue 2).run Tryz.prog w = .ok (.int .i64 0) w):=fun w=>by go_simp
     have hbm:w.heap.size≤bm:=by have:=HBM.out;omega
     have HLD0:Hid (LdI OS w wr P base ga g2 g3 cr co cm (.slice sa H.seen.length sc) H w8.heap.size (.slice (some ⟨lg,0,none⟩) (ds.length+2) lc) (ds.length+2) bm nb Db mvs 0 0):=⟨HST0.out,HLL.out,HBE9.out⟩
     clear HST0 HLL HBE9
     have EXC:=exchangeI_any HLD0.out (by have:=HDO.out;omega) (by omega) HOB.out HDS.out hw8 hbm HII.out HA1.out (fun k hk=>lnK_le HS0.out HOB.out (by omega) hk) HSM.out HRS.out
     clear HLD0
     go_wp2_with (go_at_call 75;refine EXC.mono ?_;clear EXC;rintro e w9 ⟨rfl,h9⟩;have HLd:Hid _:=h9;clear h9)
     have e:ds.length+2=OS.length+2:=by have:=HDO.out;omega
     have HEND:Hid (SS w w9 P base ga g2 g3 cr co cm H.row.length H.roots.length H.mourned.length (.slice sa H.seen.length sc) (.slice none 0 0) H [] (cmpC H).row (cmpC H).roots (cmpC H).mourned):=by
      have q:=HLd.out.st
      rw[e]at q
      unfold St at q
      have eO:cmpO H=OS:=by unfold cmpO;rw[HCP.out.plc];exact HOS.out
      have er:stR (nwW mvs) H OS (OS.length+2) 0=(cmpC H).row:=by
       show ledP _ _ (addK (covA _ (OS.take OS.length)) _ 0)=ledP (nwW (cmpG H)) (cmpH H).row (covA (cmpH H) (cmpO H))
       rw[addK_zero,List.take_length,eO,HGG.out]
      rw[er,show stO (nwW mvs) H (OS.length+2) 0=(cmpC H).roots from by show _=H.roots.map (nwW (cmpG H));rw[HGG.out];rfl,show stM (nwW mvs) H (OS.length+2) 0=(cmpC H).mourned from by show _=H.mourned.map (nwW (cmpG H));rw[HGG.out];rfl]at q
      exact q
     clear HLd
     go_wp2_with fail
     refine bodyPost_end (results_none rfl _ _ _) rfl ⟨rfl,HEND.out⟩
end Go.Proofs.YtemlagfaaibenaaGreat.hp
