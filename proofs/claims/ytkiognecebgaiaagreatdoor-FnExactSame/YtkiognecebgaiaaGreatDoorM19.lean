/-
  Chapter 10 as the program has it: what a word shows. Chapter 10 as the program has it: the memory while it is shown, beside a row that grows. Chapter 10 as the program has it: what a word shows. Chapter 10 as the program has it: what a list of words shows.
-/
import Derived.Test.YtkiognecebgaiaaGreatDoorShowI2
import Derived.Test.YtkiognecebgaiaaGreatDoorM10
namespace Go.Proofs.YtkiognecebgaiaaGreatDoor.hp
open Go.RowKit rows heads words walks Go.Maps
set_option maxRecDepth 100000
set_option linter.unusedVariables false
set_option linter.unusedSimpArgs false
theorem isI_notA {x:Int} (h:isI x=true):isA x=false:=by
 unfold isI at h
 unfold isA
 simp only[Bool.and_eq_true,beq_iff_eq,decide_eq_true_eq]at h
 have:¬x % 4=0:=by omega
 simp[this]
theorem fol_int {H:Hp} {x:Int} (h:isI x=true):fol H x=x:=fol_stop (by unfold toNote;rw[isI_notA h];rfl)
theorem refW_int {H:Hp} {L:List Int} {x:Int} (h:isI x=true):refW H L x=(1,iv x):=by unfold refW;rw[fol_int h,if_pos h]
theorem tgt_int {H:Hp} {x:Int} (h:isI x=true):tgt H x=none:=by unfold tgt;rw[fol_int h,if_neg (by rw[isI_notA h];decide)]
theorem folA {H:Hp} {ps:List Int} (R:Rt H ps):∀(n:Nat) (x:Int),rk H x≤n→wordIn H ps x=true→isA x=true→isA (fol H x)=true
 |n,x,hr,hx,hA=>by
  cases e:toNote H x
  ·rw[fol_stop e];exact hA
  ·obtain⟨_,h2,h3,h4,h5⟩:=R.note hx e
   rw[h4]
   match n,hr with
   |0,hr=>omega
   |n+1,hr=>exact folA R n _ (by omega) h2 h3
theorem fol_notI {H:Hp} {ps:List Int} (R:Rt H ps) {x:Int} (hx:wordIn H ps x=true) (h:isI x=false):isI (fol H x)=false:=by
 cases dA:isA x
 ·rw[fol_stop (by unfold toNote;rw[dA];rfl)];exact h
 ·have hA:=folA R _ x (Nat.le_refl _) hx dA
  cases e:isI (fol H x)
  ·rfl
  ·rw[isI_notA e]at hA;cases hA
theorem refW_no {H:Hp} {ps:List Int} (R:Rt H ps) {L:List Int} {x:Int} (hx:wordIn H ps x=true) (h:isI x=false) (hA:isA (fol H x)=false):refW H L x=(0,0)∧tgt H x=none:=by
 refine⟨?_,by unfold tgt;rw[if_neg (by rw[hA];decide)]⟩
 unfold refW
 rw[if_neg (by rw[fol_notI R hx h];decide),if_neg (by rw[hA];decide)]
theorem refW_yes {H:Hp} {ps:List Int} (R:Rt H ps) {L:List Int} {x:Int} (hx:wordIn H ps x=true) (h:isI x=false) (hA:isA (fol H x)=true):refW H L x=(2,(idxM L (av (fol H x)):Int)+1)∧tgt H x=some (av (fol H x)):=by
 refine⟨?_,by unfold tgt;rw[if_pos hA]⟩
 unfold refW
 rw[if_neg (by rw[fol_notI R hx h];decide),if_pos hA]
theorem av_num {x:Int} (h:isA x=true) (hx:I64 x):I64 (av x):=by
 unfold av
 rw[if_pos h]
 unfold I64 at *
 omega
theorem chHG {S:List Nat} {w w':World} (h:gr.Ch S w w'):Ch S w w':=⟨h.os,h.tape,h.output,h.size,h.block⟩
theorem chGH {S:List Nat} {w w':World} (h:Ch S w w'):gr.Ch S w w':=⟨h.os,h.tape,h.output,h.size,h.block⟩
theorem map_kept {w w':World} {k:TypeId} {R:Value→Option (DataW Unit×List MemPlace)} {b n:Nat} {D:DataW Unit} (h:w.ownsMap Tryz.prog k R b n D) (hb:w'.heap[b]? = w.heap[b]?):w'.ownsMap Tryz.prog k R b n D:=by
 obtain⟨es,clock,e,F,hs,hD⟩:=h
 exact⟨es,clock,hb.trans e,F,hs,hD⟩
theorem Sh.lt {W0:World} {base C mb:Nat} {up:Int} {v:Value} {W:World} {es:List Pd} {vm:Value} (h:Sh W0 base C mb up v W es vm):C<W.heap.size∧mb<W.heap.size∧∀k ∈ blk vm,base≤k∧k<W.heap.size:=
 ⟨Nat.lt_of_lt_of_le h.nc h.bz,Nat.lt_of_lt_of_le h.nm h.bz,blk_lt h.own⟩
theorem Sh.ch {W0:World} {base C mb:Nat} {up:Int} {v:Value} {W V:World} {es:List Pd} {vm:Value} {S:List Nat} (h:Sh W0 base C mb up v W es vm) (hc:Ch S W V) (hS:∀k ∈ S,k≠C∧k≠mb∧k ∉ blk vm∧W0.heap.size≤k):Sh W0 base C mb up v V es vm:=by
 obtain⟨l1,l2,l3⟩:=h.lt
 obtain⟨D,hm,hD⟩:=h.map
 exact⟨(hc.block _ l1 (fun e=>(hS _ e).1 rfl)).trans h.blk',row_ch h.own hc (fun k hk e=>(hS _ e).2.2.1 hk),h.sl,⟨D,map_kept hm (hc.block _ l2 (fun e=>(hS _ e).2.1 rfl)),hD⟩,h.low.trans (below_ch hc h.low.size (fun k hk=>(hS k hk).2.2.2)),h.bc,h.bm,Nat.le_trans h.bz hc.size,h.nc,h.nm,h.ne,h.num⟩
theorem SR.chR {W0:World} {base C mb:Nat} {up:Int} {v:Value} {W W' V:World} {es':List Pd} {vm vm':Value} {S:List Nat} (h:SR W0 base C mb up v W vm W' es' vm') (hc:Ch S W' V) (hS:∀k ∈ S,k ∉ blk vm'∧W.heap.size≤k) (hb:base≤W.heap.size) (h0:W0.heap.size≤W.heap.size):SR W0 base C mb up v W vm V es' vm':=by
 have n1:=h.sh.nc
 have n2:=h.sh.nm
 refine⟨h.sh.ch hc (fun k hk=>⟨fun e => ?_,fun e => ?_,(hS k hk).1,Nat.le_trans h0 (hS k hk).2⟩),⟨hc.os.trans h.ch.os,hc.tape.trans h.ch.tape,hc.output.trans h.ch.output,Nat.le_trans h.ch.size hc.size,fun k hk hn=>(hc.block k (Nat.lt_of_lt_of_le hk h.ch.size) (fun e => ?_)).trans (h.ch.block k hk hn)⟩,h.nw⟩
 ·have:=(hS k hk).2;omega
 ·have:=(hS k hk).2;omega
 ·have:=(hS k e).2;omega
theorem SR.chL {W0:World} {base C mb:Nat} {up:Int} {v:Value} {W W':World} {es':List Pd} {vm vm':Value} (h:SR W0 base C mb up v W vm W' es' vm'):Ch (C :: mb :: blk vm) W W':=⟨h.ch.os,h.ch.tape,h.ch.output,h.ch.size,fun k hk hn=>h.ch.block k hk (by
 rintro (e|e|e)
 ·exact hn (by simp[e])
 ·exact hn (by simp[e])
 ·exact hn (by simp[e]))⟩
structure RfS (W0:World) (base C mb:Nat) (up:Int) (v:Value) (H:Hp) (ds es0:List Pd) (W:World) (vm0:Value) (done:List Int) (w':World) (rv vm:Value) (es:List Pd):Prop where
 sr:SR W0 base C mb up v W vm0 w' es vm
 met:es.map Pd.pl=meetL H (es0.map Pd.pl) done
 inD:∀d ∈ es,d ∈ es0∨d ∈ ds
 own:gr.OwnR w' W.heap.size rv (done.map (refW H (meetL H (es0.map Pd.pl) done)))
 ap:∀k ∈ blk rv,k ∉ blk vm
theorem meetL_snoc (H:Hp) (M l:List Int) (x:Int):meetL H M (l++[x])=meet (meetL H M l) (tgt H x):=by
 unfold meetL
 rw[List.foldl_append]
 rfl
theorem RfS.mid {W0:World} {base C mb:Nat} {up:Int} {v:Value} {H:Hp} {ds es0:List Pd} {W:World} {vm0:Value} {done:List Int} {w1 w2:World} {rv vm vm2:Value} {es es2:List Pd} (h:RfS W0 base C mb up v H ds es0 W vm0 done w1 rv vm es) (hb:base≤W.heap.size) {x:Int}
    (hs:SR W0 base C mb up v w1 vm w2 es2 vm2) (hm:es2.map Pd.pl=meet (es.map Pd.pl) (tgt H x)) (hd:∀d ∈ es2,d ∈ es∨d ∈ ds) :
    SR W0 base C mb up v W vm0 w2 es2 vm2∧es2.map Pd.pl=meetL H (es0.map Pd.pl) (done++[x])∧(∀d ∈ es2,d ∈ es0∨d ∈ ds)∧gr.OwnR w2 W.heap.size rv (done.map (refW H (meetL H (es0.map Pd.pl) (done++[x]))))∧(∀k ∈ blk rv,k ∉ blk vm2)∧refW H (meet (es.map Pd.pl) (tgt H x)) x=refW H (meetL H (es0.map Pd.pl) (done++[x])) x:=by
 have L:=gr.blk_lt h.own
 have n1:=hs.sh.nc
 have n2:=hs.sh.nm
 refine⟨h.sr.trans hs,by rw[hm,h.met,meetL_snoc],fun d hdd=>(hd d hdd).elim (h.inD d) .inr,?_,fun k hk hc => ?_,by rw[h.met,meetL_snoc]⟩
 ·have e:done.map (refW H (meetL H (es0.map Pd.pl) (done++[x])))=done.map (refW H (meetL H (es0.map Pd.pl) done)):=by
    refine List.map_congr_left (fun y hy => ?_)
    rw[meetL_snoc]
    obtain⟨l,el⟩:=meet_sub (M:=meetL H (es0.map Pd.pl) done) (t:=tgt H x)
    rw[el]
    exact refW_pre (fun a ha=>meetL_has hy ha)
  rw[e]
  exact gr.row_ch h.own (chGH hs.chL) (fun k hk hc=>by
   have:=L k hk
   rcases List.mem_cons.1 hc with e|hc
   ·omega
   ·rcases List.mem_cons.1 hc with e|hc
    ·omega
    ·exact h.ap k hk hc)
 ·rcases hs.nw k hc with e|e
  ·exact h.ap k hk e
  ·have:=(L k hk).2;omega
theorem RfS.next {W0:World} {base C mb:Nat} {up:Int} {v:Value} {H:Hp} {ds es0:List Pd} {W:World} {vm0:Value} {done:List Int} {x:Int} {w2 w3:World} {rv rv2 vm2:Value} {es2:List Pd} (hb:base≤W.heap.size) (h0:W0.heap.size≤W.heap.size)
    (hs:SR W0 base C mb up v W vm0 w2 es2 vm2) (hm:es2.map Pd.pl=meetL H (es0.map Pd.pl) (done++[x])) (hd:∀d ∈ es2,d ∈ es0∨d ∈ ds) {ys:List gr.Rf} (ho:gr.OwnR w2 W.heap.size rv ys) (ha:∀k ∈ blk rv,k ∉ blk vm2)
    {w2':World} (hB:Below w2.heap.size w2 w2') (hc:gr.Ch (gr.blk rv) w2' w3) (hat:∀k ∈ gr.blk rv2,k ∈ gr.blk rv∨w2'.heap.size≤k) (ho3:gr.OwnR w3 W.heap.size rv2 ((done++[x]).map (refW H (meetL H (es0.map Pd.pl) (done++[x]))))) :
    RfS W0 base C mb up v H ds es0 W vm0 (done++[x]) w3 rv2 vm2 es2:=by
 have L:=gr.blk_lt ho
 have L2:=hs.sh.lt.2.2
 have hsz:=hB.size
 refine⟨(hs.below hB).chR (chHG hc) (fun k hk=>⟨ha k hk,(L k hk).1⟩) hb h0,hm,hd,ho3,fun k hk hk2 => ?_⟩
 rcases hat k hk with e|e
 ·exact ha k e hk2
 ·have:=(L2 k hk2).2;omega
theorem metE_in {es ds:List Pd} {d:Pd} (hd:d ∈ ds):∀x ∈ metE es d,x ∈ es∨x ∈ ds:=by
 unfold metE
 split
 ·exact fun x hx => .inl hx
 ·intro x hx
  rcases List.mem_append.1 hx with hx|hx
  ·exact .inl hx
  ·have e:x=d:=by simpa using hx
   exact .inr (e▸hd)
def RefA (W0:World) (base C mb:Nat) (up:Int) (v:Value) (H:Hp) (ds es:List Pd) (W:World) (vm:Value) (x:Int) (E:gr.Rf) (e:Ending) (w':World):Prop:=∃es' vm',e = .returned (gr.rv E)∧es'.map Pd.pl=meet (es.map Pd.pl) (tgt H x)∧(∀d ∈ es',d ∈ es∨d ∈ ds)∧SR W0 base C mb up v W vm w' es' vm'
set_option maxHeartbeats 16000000 in
theorem refOf_any {W0:World} {base C mb:Nat} {up:Int} {a:Option Addr} {cap:Nat} {H:Hp} {ps:List Int} {ds:List Pd} {sl:Pd→List Int} (hv:RoomsAt W0 (.slice a ds.length cap) ds sl) (hF:FolP H ps ds sl) (hr:AllI H.row)
    {W:World} {es:List Pd} {vm:Value} (h:Sh W0 base C mb up (.slice a ds.length cap) W es vm) (hl:es.length≤1000) (x:Int) (hx:wordIn H ps x=true) (hb:I64 x) :
    Calls Tryz.prog 156 #[.pointer (some ⟨C,0,none⟩),.int .i64 x] W fun e w'=>RefA W0 base C mb up (.slice a ds.length cap) H ds es W vm x (refW H (meet (es.map Pd.pl) (tgt H x)) x) e w':=by
 have B0:Below W.heap.size W (W.alloc (.cells #[.int .i64 0,.int .i64 0] 31)):=(Below.refl _ _).alloc (Nat.le_refl _) _
 have Q0:(W.alloc (.cells #[.int .i64 0,.int .i64 0] 31)).heap[W.heap.size]? = some (gr.rb (0,0)):=heap_alloc_new W _
 have IOF:=intOf_any x (W.alloc (.cells #[.int .i64 0,.int .i64 0] 31)) hb.1 hb.2
 have HH:Hid _:=h
 cases dI:isI x
 ·have hST:=standing_any (w:=W.alloc (.cells #[.int .i64 0,.int .i64 0] 31)) (up:=up) (hv.below (h.low.trans (B0.mono h.low.size))) hF hr x hx hb
  rw[dI]at IOF
  cases dA:isA (fol H x)
  ·obtain⟨e1,e2⟩:=refW_no hF.rt (L:=meet (es.map Pd.pl) (tgt H x)) hx dI dA
   rw[e1]
   have HTG:Hid _:=e2
   have ST:=hST.mono (fun e w' (hh:_∧_∧_)=>(⟨hh.1 dA,hh.2.2⟩:e = .returned (.tuple #[pdv pdD,.bool false])∧Below (W.alloc (.cells #[.int .i64 0,.int .i64 0] 31)).heap.size (W.alloc (.cells #[.int .i64 0,.int .i64 0] 31)) w'))
   obtain⟨⟨z0,z1,_,_⟩,_⟩:=shb_cells (h.below B0).blk'
   have HB0:Hid _:=B0
   have HQ0:Hid _:=Q0
   clear hST hv hF hr h hl hx hb dI dA e1 e2 B0 Q0
   go_enter Tryz.func156,Tryz.ntmps156
   go_upto_region 5 with (first
    |(go_at_call 186;refine IOF.mono ?_;clear IOF;rintro e w4 ⟨rfl,hw4⟩;rw[hw4];clear hw4 w4)
    |(go_at_call 187;refine ST.mono ?_;clear ST;rintro e w1 ⟨rfl,b1⟩;have HB1:Hid _:=b1;clear b1 z0 z1))
   have HB2:Hid _:=HB1.out.alloc HB1.out.size (pdb pdD)
   generalize w1.alloc (pdb pdD)=Y at *
   have q3:=(HB2.out.block _ (lt_of_block HQ0.out)).trans HQ0.out
   obtain⟨r0,r1,rf⟩:=gr.rb_cells q3
   have rf0:=rf 0
   have rf1:=rf 1
   have HQ3:Hid _:=q3
   have HB3:Hid _:=HB0.out.trans (HB2.out.mono HB0.out.size)
   clear q3 rf
   go_wp2_with fail
   exact bodyPost_ret (gr.res_rf rfl rfl (gr.rb_set HQ3.out 0 0)) rfl ⟨es,vm,rfl,by rw[HTG.out];rfl,fun d hd => .inl hd,(SR.refl HH.out).below ((HB3.out.setCell (p:=⟨W.heap.size,0,none⟩) (Nat.le_refl _) _).setCell (p:=⟨W.heap.size,1,none⟩) (Nat.le_refl _) _)⟩
  ·obtain⟨e1,e2⟩:=refW_yes hF.rt (L:=meet (es.map Pd.pl) (tgt H x)) hx dI dA
   rw[e1]
   have HTG:Hid (tgt H x=some (av (fol H x))):=e2
   rw[e2]
   have hyf:I64 (av (fol H x)):=av_num dA (fol_num hr 1000 x hb)
   have ST:=hST.mono (fun e w' (hh:_∧_∧_)=>(⟨hh.2.1 dA,hh.2.2⟩:(∃i,i<ds.length∧(ds.getD i pdD).pl=av (fol H x)∧e = .returned (.tuple #[pdv (ds.getD i pdD),.bool true]))∧Below (W.alloc (.cells #[.int .i64 0,.int .i64 0] 31)).heap.size (W.alloc (.cells #[.int .i64 0,.int .i64 0] 31)) w'))
   generalize av (fol H x)=p at *
   obtain⟨⟨z0,z1,_,_⟩,_⟩:=shb_cells (h.below B0).blk'
   have HB0:Hid _:=B0
   have HQ0:Hid _:=Q0
   have HSL:Hid _:=hv.slices
   have HP:Hid _:=hyf
   have HE:Hid ((idxM (meet (es.map Pd.pl) (some p)) p:Int)+1=idM (meet (es.map Pd.pl) (some p)) p):=(idM_met (meet_in rfl)).symm
   clear hST hv hF hr h hx hb dI dA e1 e2 B0 Q0 hyf
   go_enter Tryz.func156,Tryz.ntmps156
   go_upto_region 5 with (first
    |(go_at_call 186;refine IOF.mono ?_;clear IOF;rintro e w4 ⟨rfl,hw4⟩;rw[hw4];clear hw4 w4)
    |(go_at_call 187;refine ST.mono ?_;clear ST;rintro e w1 ⟨⟨i,hi,hpl,rfl⟩,b1⟩;have HB1:Hid _:=b1;have HMD:Hid _:=mem_getDP hi;obtain⟨sa,sn,sc,hsv⟩:=HSL.out _ (mem_getDP hi);obtain⟨d,hd⟩:∃d,ds.getD i pdD=d:=⟨_,rfl⟩;rw[hd]at hsv hpl HMD ⊢; clear b1 hd z0 z1 hi;obtain⟨ds',df,dc,dh,dp,dm,du,dl⟩:=d;simp only at hsv hpl;subst hsv;subst hpl))
   have HB2:Hid _:=HB1.out.alloc HB1.out.size (pdb ⟨ds',df,dc,dh,dp,dm,.slice sa sn sc,dl⟩)
   obtain⟨⟨p0,p1,p2,p3,p4,p5,p6,p7⟩,_⟩:=pdb_cells (heap_alloc_new w1 (pdb ⟨ds',df,dc,dh,dp,dm,.slice sa sn sc,dl⟩))
   simp only at p0 p1 p2 p3 p4 p5 p6 p7
   generalize w1.alloc (pdb ⟨ds',df,dc,dh,dp,dm,.slice sa sn sc,dl⟩)=Y at *
   have HBY:Hid _:=HB0.out.trans (HB2.out.mono HB0.out.size)
   have HQY:Hid _:=(HB2.out.block _ (lt_of_block HQ0.out)).trans HQ0.out
   have ID:=idOf_any (HH.out.below HBY.out) hl (ds':=ds') (df:=df) (dc:=dc) (dh:=dh) (dp:=dp) (dm:=dm) (sa:=sa) (sn:=sn) (sc:=sc) HP.out
   have HKQ:Hid (∀w3 es2 vm2,SR W0 base C mb up (.slice a ds.length cap) Y vm w3 es2 vm2→w3.heap[W.heap.size]? = some (gr.rb (0,0))):=fun w3 es2 vm2 sr=>(sr.ch.block _ (lt_of_block HQY.out) (fun hc=>by
    obtain⟨l1,l2,l3⟩:=HH.out.lt
    rcases hc with e|e|e
    ·omega
    ·omega
    ·have:=(l3 _ e).2;omega)).trans HQY.out
   clear HB0 HQ0 HB1 HB2
   go_wp2_with (go_at_call 157;refine ID.mono ?_;clear ID p0 p1 p2 p3 p4 p5 p6 p7;rintro e w3 ⟨rfl,vm',sr⟩;have HSR:Hid _:=sr;have hW3:=HKQ.out w3 _ vm' sr;obtain⟨r0,r1,rf⟩:=gr.rb_cells hW3;have rf0:=rf 0;have rf1:=rf 1;have HQ3:Hid _:=hW3;clear sr hW3 rf)
   refine bodyPost_ret (gr.res_rf rfl rfl (gr.rb_set HQ3.out 2 (idM (meet (es.map Pd.pl) (some dl)) dl))) rfl ⟨metE es ⟨ds',df,dc,dh,dp,dm,.slice sa sn sc,dl⟩,vm',by rw[HE.out],by rw[HTG.out];exact metE_pl _ _,metE_in HMD.out,?_⟩
   have s1:=HSR.out.ahead HBY.out
   have hbz:=HH.out.bz
   have h0:=HH.out.low.size
   have hY:=lt_of_block HQY.out
   have hn:W.heap.size ∉ blk vm':=fun hc=>by
    obtain⟨l1,l2,l3⟩:=HH.out.lt
    rcases HSR.out.nw _ hc with e|e
    ·have:=(l3 _ e).2;omega
    ·omega
   have s2:=s1.chR (chHG (gr.one_ch w3 W.heap.size 0 (.int .i64 2))) (fun k hk=>by have e:k=W.heap.size:=by simpa using hk
                                                                                   rw[e];exact⟨hn,Nat.le_refl _⟩) hbz h0
   exact s2.chR (chHG (gr.one_ch _ W.heap.size 1 _)) (fun k hk=>by have e:k=W.heap.size:=by simpa using hk
                                                                   rw[e];exact⟨hn,Nat.le_refl _⟩) hbz h0
 ·rw[dI]at IOF
  rw[refW_int dI]
  have HTG:Hid _:=tgt_int (H:=H) dI
  obtain⟨r0,r1,rf⟩:=gr.rb_cells Q0
  have rf0:=rf 0
  have rf1:=rf 1
  have HB0:Hid _:=B0
  have HQ0:Hid _:=Q0
  clear hv hF hr h hl hx hb dI B0 Q0 rf
  go_enter Tryz.func156,Tryz.ntmps156
  go_wp2_with (go_at_call 186;refine IOF.mono ?_;clear IOF;rintro e w4 ⟨rfl,hw4⟩;rw[hw4];clear hw4 w4)
  exact bodyPost_ret (gr.res_rf (e:=(1,iv x)) rfl rfl (heap_alloc_new W _)) rfl ⟨es,vm,rfl,by rw[HTG.out];rfl,fun d hd => .inl hd,(SR.refl HH.out).below ((Below.refl _ _).alloc (Nat.le_refl _) _)⟩
def RefsA (W0:World) (base C mb:Nat) (up:Int) (v:Value) (H:Hp) (ds es:List Pd) (W:World) (vm:Value) (l:List Int) (e:Ending) (w':World):Prop:=∃va vn vc es' vm',e = .returned (.slice va vn vc)∧RfS W0 base C mb up v H ds es W vm l w' (.slice va vn vc) vm' es'
set_option maxHeartbeats 16000000 in
theorem refsOf_any {W0:World} {base C mb:Nat} {up:Int} {a:Option Addr} {cap:Nat} {H:Hp} {ps:List Int} {ds:List Pd} {sl:Pd→List Int} (hv:RoomsAt W0 (.slice a ds.length cap) ds sl) (hF:FolP H ps ds sl) (hr:AllI H.row)
    {W:World} {es:List Pd} {vm:Value} (h:Sh W0 base C mb up (.slice a ds.length cap) W es vm) (hog:Og H ps (es.map Pd.pl)) {la:Option Addr} {lc:Nat} {l:List Int} (hL:IntsAt W0 (.slice la l.length lc) l) (hll:l.length≤1000) (hW:∀x ∈ l,wordIn H ps x=true∧I64 x) :
    Calls Tryz.prog 135 #[.pointer (some ⟨C,0,none⟩),.slice la l.length lc] W fun e w'=>RefsA W0 base C mb up (.slice a ds.length cap) H ds es W vm l e w':=by
 have hbz:=h.bz
 have h0:=h.low.size
 have BX:Below W.heap.size W (W.alloc (.cells #[] 31)):=(Below.refl _ _).alloc (Nat.le_refl _) _
 have ST:RfS W0 base C mb up (.slice a ds.length cap) H ds es W vm [] (W.alloc (.cells #[] 31)) (.slice (some ⟨W.heap.size,0,none⟩) 0 0) vm es:=by
  refine⟨(SR.refl h).below BX,rfl,fun d hd => .inl hd,gr.fullR_own (es:=[]) (heap_alloc_new W _) (Nat.le_refl _) (by decide),fun k hk hc => ?_⟩
  have e:k=W.heap.size:=by simpa [blk,Value.ownBlock] using hk
  have:=(h.lt.2.2 k hc).2
  omega
 have HLN:Hid (∀(q:List Int) (es':List Pd),es'.map Pd.pl=meetL H (es.map Pd.pl) q→(∀x ∈ q,x ∈ l)→es'.length≤1000):=fun q es' e hq=>by
  have:=(hog.meetL (A:=q) (fun x hx b hb=>hF.rt.tgt_at (hW x (hq x hx)).1 hb)).len hF.rt
  rw[←e,List.length_map]at this
  omega
 have HRO:Hid (∀(V:World) (es':List Pd) (vm':Value),Sh W0 base C mb up (.slice a ds.length cap) V es' vm'→es'.length≤1000→∀x ∈ l,Calls Tryz.prog 156 #[.pointer (some ⟨C,0,none⟩),.int .i64 x] V fun e w'=>RefA W0 base C mb up (.slice a ds.length cap) H ds es' V vm' x (refW H (meet (es'.map Pd.pl) (tgt H x)) x) e w'):=fun V es' vm' hs hl x hx=>refOf_any hv hF hr hs hl x (hW x hx).1 (hW x hx).2
 have HIL:Hid (∀V,Below W0.heap.size W0 V→IntsAt V (.slice la l.length lc) l):=fun V hV=>intsAt_below hL hV
 have HST:Hid _:=ST
 clear ST BX hv hF hr h hog hL hW
 go_enter Tryz.func135,Tryz.ntmps135
 go_wp2_with fail
 generalize W.alloc (.cells #[] 31)=X at *
 go_loopw [5,7,11] (fun v _ q wr=>∃(k:Nat) (vv:Value) (es':List Pd) (vm':Value),vv=v∧k≤l.length∧q = .int .i64 (k:Int)∧RfS W0 base C mb up (.slice a ds.length cap) H ds es W vm (l.take k) wr vv vm' es') (fun _ _ q _=>l.length-(intOf q).toNat)
 case atStart=>exact⟨0,_,_,_,rfl,Nat.zero_le _,rfl,HST.out⟩
 case round=>
  obtain⟨k,vv,es1,vm1,rfl,hk,rfl,hS⟩:=hrel
  clear HST
  obtain⟨ra,rn,rc,rfl⟩:=gr.refs_slice (gr.ownR_refs hS.own)
  have HS:Hid _:=hS
  by_cases hlt:k<l.length
  ·have hlt':(k:Int)<(l.length:Int):=by omega
   obtain⟨lb,lo,ea,hlb,x0⟩:=ints_cell (HIL.out wr hS.sr.sh.low) hlt
   subst ea
   have hxm:l.getD k 0 ∈ l:=by rw[List.getD_eq_getElem?_getD,List.getElem?_eq_getElem hlt];exact List.getElem_mem hlt
   have RO:=HRO.out wr es1 vm1 hS.sr.sh (HLN.out _ es1 hS.met (fun x hx=>List.mem_of_mem_take hx)) _ hxm
   have HTK:Hid (l.take (k+1)=l.take k++[l.getD k 0]):=by
    show _=_
    rw[List.take_add_one,List.getElem?_eq_getElem hlt,List.getD_eq_getElem?_getD,List.getElem?_eq_getElem hlt]
    rfl
   have htl:(l.take k).length≤1000:=by rw[List.length_take];omega
   clear hxm hS HIL HLN HRO
   generalize l.getD k 0=x at *
   generalize hT:l.take k=T at *
   clear hT
   obtain⟨E,hE⟩:∃E,refW H (meet (es1.map Pd.pl) (tgt H x)) x=E:=⟨_,rfl⟩
   have HE:Hid _:=hE
   rw[hE]at RO
   clear hE
   obtain⟨e1,e2⟩:=E
   go_wp2_with (first
    |(go_at_call 156;refine RO.mono ?_;clear RO;rintro e w2 ⟨es2,vm2,rfl,hm2,hd2,sr2⟩
      obtain⟨t1,t2,t3,t4,t5,t6⟩:=HS.out.mid hbz sr2 hm2 hd2
      have HT1:Hid _:=t1
      have HT2:Hid _:=t2
      have HT3:Hid _:=t3
      have HT4:Hid _:=t4
      have HT5:Hid _:=t5
      have HT6:Hid _:=t6
      have BY:Below w2.heap.size w2 (w2.alloc (gr.rb (e1,e2))):=(Below.refl _ _).alloc (Nat.le_refl _) _
      have HOY:Hid _:=gr.ownR_below t4 BY
      have HVB:Hid ((w2.alloc (gr.rb (e1,e2))).heap[w2.heap.size]? = some (gr.rb (e1,e2))):=heap_alloc_new _ _
      have hys:(T.map (refW H (meetL H (es.map Pd.pl) (T++[x])))).length≤1000000:=by rw[List.length_map];omega
      have hbs:W.heap.size≤(w2.alloc (gr.rb (e1,e2))).heap.size:=Nat.le_trans t1.ch.size BY.size
      have HBY:Hid _:=BY
      clear hm2 hd2 sr2 t1 t2 t3 t4 t5 t6 BY x0)
    |(at_builtin;refine gr.wpList_app1R rfl _ _ rfl W.heap.size (.slice ra rn rc) (T.map (refW H (meetL H (es.map Pd.pl) (T++[x])))) rfl HOY.out w2.heap.size (e1,e2) rfl HVB.out hys hbs ?_;intro va vn vc w6 r1 r2 r3
      rw[←HE.out,HT6.out]at r1
      have HN6:Hid _:=RfS.next hbz h0 HT1.out HT2.out HT3.out HT4.out HT5.out HBY.out r2 r3 (by rw[List.map_append];exact r1)
      clear r1 r2 r3))
   exact⟨⟨k+1,_,es2,vm2,rfl,by omega,by go_num,by rw[HTK.out];exact HN6.out⟩,by simp[intOf];omega⟩
  ·have e:k=l.length:=by omega
   subst e
   have hlt':¬(l.length:Int)<(l.length:Int):=by omega
   rw[List.take_length]at HS
   clear hS HIL HLN HRO
   go_wp2
   go_ret
   exact⟨_,_,_,es1,vm1,rfl,HS.out⟩
end Go.Proofs.YtkiognecebgaiaaGreatDoor.hp
