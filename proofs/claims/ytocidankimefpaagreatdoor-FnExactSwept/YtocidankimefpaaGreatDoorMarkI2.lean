/-
  Chapter 13 as the program has it: marks or waits.
  Made from the template MarkI2.
-/
import Derived.Test.YtocidankimefpaaGreatDoorM26
import Derived.Test.YtocidankimefpaaGreatDoorM25
import Derived.Maps.AppendAt
import Derived.Deep.RegionLaw
import Derived.BigQuiet
namespace Go.Proofs.YtocidankimefpaaGreatDoor.hp
open Go.RowKit rows heads words walks Go.Maps
set_option maxRecDepth 100000
set_option linter.unusedVariables false
set_option linter.unusedSimpArgs false
def okW (H:Hp) (ps:List Int) (x:Int):Prop:=wordIn H ps x=true∧I64 x
def MarkAll (W0:World) (C mb base:Nat) (up:Int) (v:Value) (H:Hp) (ps:List Int) (N:Nat):Prop:=
 ∀(W:World) (m:Mm) (s:Nat) (Q A:Int→Prop) (lv:Value) (L:List Int),600-m.M.length≤N→MS W0 C mb base up v (okW H ps) m s W→MI H m.M m.Wt (fun x=>Q x∨x ∈ L) A→(∀x ∈ L,okW H ps x)→goesM H (Mk H) L→L.length≤20000→(∀W',ChP (m.fs C mb) W W'→IntsAt W' lv L) →
  Calls Tryz.prog 69 #[.pointer (some ⟨C,0,none⟩),lv] W fun e w'=>e = .returned (.tuple #[])∧∃m',MR W0 C mb base up v (okW H ps) s m W m' w'∧MI H m'.M m'.Wt Q A
theorem step_appI {ops:Array Oper} {o:Oper} {a:Act} {w:World} {K:Act→World→Prop} {Q:Exit→Act→World→Prop} {E:Prop} (hgd:o.guard=none) (s x:Operand)
    (ho:o.op = .call { callee:=.builtin .append,args:=#[s,x],argTypes:=#[22,22] })
    (base:Nat) (v:Value) (es:List Int) (hs:a.eval s=v) (hown:rows.Own w base v es) (ad:Addr) (m c:Nat) (fs:List Int) (hx:a.eval x = .slice (some ad) m c) (hR:IntsAt w (.slice (some ad) m c) fs)
    (hb:es.length+fs.length≤1048576) (hbase:base≤w.heap.size)
    (h:∀va vn vc w',rows.Own w' base (.slice va vn vc) (es++fs)→Ch (blk v) w w'→(∀k ∈ blk (.slice va vn vc),k ∈ blk v∨w.heap.size≤k)→K (a.put o.dst (.slice va vn vc)) w') :
    if Region.wanted o (yielded ops a.tmps)=true then Oper.wp Tryz.prog o a w K Q else E:=by
 obtain⟨i0,hi,hz0,hz1,hz2⟩:=info_parts info
 have hw:Region.wanted o (yielded ops a.tmps)=true:=by simp[Region.wanted,hgd]
 rw[if_pos hw]
 have hm:fs.length=m:=by
  obtain⟨_,_,e,_⟩:=id hR
  injection e with _ e _
  exact e.symm
 subst hm
 obtain⟨v',w',hr,h2,h3,_,h5⟩:=run_append_own_at (P:=Tryz.prog) w base 22 o.type 2 i0 (.int .i64 0) 1 8 Tryz.underlying22 hi hz0 hz1 hz2 rfl (by decide) v es.length (cellsOf es) hown ad fs.length c (cellsOf fs) (by simp) (ints_news hR) (cellsI_one fs) (by unfold maxLen;omega) (by omega) hbase
 have O':rows.Own w' base v' (es++fs):=by
  show World.ownsRow _ _ _ _ _ _ _
  rw[List.length_append,cellsI_append]
  exact h2
 obtain⟨va,vn,vc,rfl⟩:=ints_slice (own_ints O')
 unfold Oper.wp
 simp[execOp,ho,resolve,invoke,builtin,hs,hx,hr,Result.andThen]
 refine h va vn vc w' O' (ch_grown h3) (fun k hk => ?_)
 unfold blk at hk ⊢
 rcases h5 with e|e
 ·rw[e]at hk;exact .inl hk
 ·rw[e]at hk;simp at hk;exact .inr (by omega)
theorem tgt_no {H:Hp} {x:Int} (h:isA (fol H x)=false):tgt H x=none:=by unfold tgt;rw[if_neg (by rw[h];decide)]
theorem tgt_yes {H:Hp} {x:Int} (h:isA (fol H x)=true):tgt H x=some (av (fol H x)):=by unfold tgt;rw[if_pos h]
theorem isA_num {x:Int} (h:isA x=true) (hx:I64 x):I64 (av x):=by
 have:=isA_true h
 unfold av
 rw[if_pos h]
 exact⟨by omega,by omega⟩
set_option maxHeartbeats 16000000 in
theorem orWait_any {W0:World} {C mb base:Nat} {up:Int} {a:Option Addr} {cap:Nat} {H:Hp} {ps:List Int} {ds:List Pd} {sl:Pd→List Int} (hv:RoomsAt W0 (.slice a ds.length cap) ds sl) (hF:FolP H ps ds sl) (hr:AllI H.row) {N:Nat} (IH:MarkAll W0 C mb base up (.slice a ds.length cap) H ps N)
    {W:World} {m:Mm} {s:Nat} {Q A:Int→Prop} {p:Int} (hN:600-m.M.length≤N) (hS:MS W0 C mb base up (.slice a ds.length cap) (okW H ps) m (s+1) W) (hI:MI H m.M m.Wt Q (fun q=>A q∨q=p)) (hp:p ∈ m.M) (h2:fm H p=2) (y:Int) (hy:(slotsOf H p).getD 0 0=y) (hyo:okW H ps y) {ad:Addr} {ln lc:Nat} (hok:∀x ∈ restM H p,okW H ps x) (h20:(restM H p).length≤20) (hK:∀W',ChP (m.fs C mb) W W'→IntsAt W' (.slice (some ad) ln lc) (restM H p)) :
    Calls Tryz.prog 159 #[.pointer (some ⟨C,0,none⟩),.int .i64 y,.slice (some ad) ln lc] W fun e w'=>e = .returned (.tuple #[])∧∃m',MR W0 C mb base up (.slice a ds.length cap) (okW H ps) s m W m' w'∧MI H m'.M m'.Wt Q A:=by
 have ST:=standing_any (up:=up) (hv.below hS.low) hF hr y hyo.1 hyo.2
 have hky:keyM H p=tgt H y:=by unfold keyM;rw[if_pos h2,hy]
 have HGO:Hid (∀V,Below W.heap.size W V→(∀k,keyM H p=some k→k ∈ m.M)→Calls Tryz.prog 69 #[.pointer (some ⟨C,0,none⟩),.slice (some ad) ln lc] V fun e w'=>e = .returned (.tuple #[])∧∃m',MR W0 C mb base up (.slice a ds.length cap) (okW H ps) s m W m' w'∧MI H m'.M m'.Wt Q A):=fun V hV hk=>by
  refine (IH V m s Q A (.slice (some ad) ln lc) (restM H p) hN ((hS.below hV).less (by omega)) hI.goRest hok (((mk_closed H).2 p (hI.snd p hp)).2 (fun k e=>hI.snd k (hk k e))) (by omega) (fun W' hW'=>hK W' ((chP_below hV).trans hW' (fun j hj => .inl hj)))).mono ?_
  rintro e w' ⟨rfl,m',mr,mi⟩
  exact⟨rfl,m',mr.ahead hV,mi⟩
 obtain⟨⟨z0,z1,z2,z3⟩,_⟩:=mkb_cells hS.blk'
 have HS:Hid _:=hS
 have HI:Hid _:=hI
 have HK:Hid _:=hK
 have HSL:Hid _:=hv.slices
 cases dA:isA (fol H y)
 ·have hkn:∀k,keyM H p=some k→k ∈ m.M:=fun k e=>by rw[hky,tgt_no dA]at e;cases e
  have ST0:=ST.mono (fun e w' (hh:_∧_∧_)=>(⟨hh.1 dA,hh.2.2⟩:e = .returned (.tuple #[pdv pdD,.bool false])∧Below W.heap.size W w'))
  have HGK:Hid (∀V,Below W.heap.size W V→Calls Tryz.prog 69 #[.pointer (some ⟨C,0,none⟩),.slice (some ad) ln lc] V fun e w'=>e = .returned (.tuple #[])∧∃m',MR W0 C mb base up (.slice a ds.length cap) (okW H ps) s m W m' w'∧MI H m'.M m'.Wt Q A):=fun V hV=>HGO.out V hV hkn
  clear ST hv hF hr IH hN hS hI hp h2 hy hyo hok h20 hK hky HGO dA hkn HI HS HK HSL
  go_enter Tryz.func159,Tryz.ntmps159
  go_upto_region 1 with (go_at_call 117;refine ST0.mono ?_;clear ST0 z0 z1 z2 z3;rintro e w1 ⟨rfl,b1⟩;have HB1:Hid _:=b1;clear b1)
  have HB2:Hid _:=HB1.out.alloc HB1.out.size (pdb pdD)
  generalize w1.alloc (pdb pdD)=Y at *
  go_quiet (fail)
  have CM:=HGK.out (Y.drewN nq) (HB2.out.trans ((bel_of_drewN ⟨nq,rfl⟩).mono HB2.out.size))
  clear HGK
  go_wp2_with (go_at_call 69;refine CM.mono ?_;clear CM;rintro e w3 ⟨rfl,m',mr,mi⟩;have HMR:Hid _:=mr;have HMI:Hid _:=mi;clear mr mi)
  exact bodyPost_ret (results_none rfl _ _ _) rfl ⟨rfl,m',HMR.out,HMI.out⟩
 ·have ST1:=ST.mono (fun e w' (hh:_∧_∧_)=>(⟨hh.2.1 dA,hh.2.2⟩:(∃i,i<ds.length∧(ds.getD i pdD).pl=av (fol H y)∧e = .returned (.tuple #[pdv (ds.getD i pdD),.bool true]))∧Below W.heap.size W w'))
  have hyf:I64 (fol H y):=fol_num hr 1000 y hyo.2
  have hkk:keyM H p=some (av (fol H y)):=by rw[hky,tgt_yes dA]
  have hki:=isA_num dA hyf
  generalize av (fol H y)=k at *
  have hml:=hS.ml
  have HAS:Hid (∀V q,Below W.heap.size W V→Calls Tryz.prog 35 #[.pointer (some ⟨C,2,none⟩),.int .i64 k] (V.drewN q) fun e w'=>e = .returned (.bool (decide (k ∈ m.M)))∧w'=V.drewN q):=fun V q hV=>by
   have hS':=hS.below (hV.trans ((bel_of_drewN ⟨q,rfl⟩).mono hV.size))
   exact hasM_any (mkb_cells hS'.blk').1.2.2.1 (own_ints hS'.mown) hI.rise (by omega) k
  have HCE:Hid (∀V,Below W.heap.size W V→V.cell? ⟨C,3,none⟩=some (.map (some mb))):=fun V hV=>(mkb_cells (hS.below hV).blk').1.2.2.2
  have HKI:Hid _:=hki
  have HKK:Hid _:=hkk
  have HP:Hid _:=hp
  have HOK:Hid _:=hok
  have hwl:=hS.wl k
  have hbz:=hS.bz
  by_cases hkM:k ∈ m.M
  ·have HGK:Hid (∀V,Below W.heap.size W V→Calls Tryz.prog 69 #[.pointer (some ⟨C,0,none⟩),.slice (some ad) ln lc] V fun e w'=>e = .returned (.tuple #[])∧∃m',MR W0 C mb base up (.slice a ds.length cap) (okW H ps) s m W m' w'∧MI H m'.M m'.Wt Q A):=fun V hV=>HGO.out V hV (fun q e=>by rw[hkk]at e;injection e with e;rw[←e];exact hkM)
   simp only[decide_eq_true hkM]at HAS
   clear ST hv hF hr IH hN hS hI hp h2 hy hyo hok h20 hK hky HGO dA HI HS HK hyf hkk hki hkM HCE HKI HKK HP HOK hwl hbz hml
   go_enter Tryz.func159,Tryz.ntmps159
   go_upto_region 1 with (go_at_call 117;refine ST1.mono ?_;clear ST1 z0 z1 z2 z3;rintro e w1 ⟨⟨i,hi,hpl,rfl⟩,b1⟩;have HB1:Hid _:=b1;obtain⟨sa,sn,sc,hsv⟩:=HSL.out _ (mem_getDP hi);obtain⟨d,hd⟩:∃d,ds.getD i pdD=d:=⟨_,rfl⟩;rw[hd]at hsv hpl ⊢; clear b1 hd;obtain⟨ds',df,dc,dh,dp,dm,du,dl⟩:=d;simp only at hsv hpl;subst hsv;subst hpl)
   have HB2:Hid _:=HB1.out.alloc HB1.out.size (pdb ⟨ds',df,dc,dh,dp,dm,.slice sa sn sc,dl⟩)
   obtain⟨⟨_,_,_,_,_,_,_,p7⟩,_⟩:=pdb_cells (heap_alloc_new w1 (pdb ⟨ds',df,dc,dh,dp,dm,.slice sa sn sc,dl⟩))
   simp only at p7
   generalize w1.alloc (pdb ⟨ds',df,dc,dh,dp,dm,.slice sa sn sc,dl⟩)=Y at *
   have HAY:Hid _:=fun q=>HAS.out Y q HB2.out
   clear HAS
   go_quiet ((go_at_call 35;exact (HAY.out _).mono fun _ _ ⟨he,hm⟩=>⟨he,_,hm⟩))
   have CM:=HGK.out (Y.drewN nq) (HB2.out.trans ((bel_of_drewN ⟨nq,rfl⟩).mono HB2.out.size))
   clear HGK
   go_wp2_with (go_at_call 69;refine CM.mono ?_;clear CM;rintro e w3 ⟨rfl,m',mr,mi⟩;have HMR:Hid _:=mr;have HMI:Hid _:=mi;clear mr mi)
   exact bodyPost_ret (results_none rfl _ _ _) rfl ⟨rfl,m',HMR.out,HMI.out⟩
  ·simp only[decide_eq_false hkM]at HAS
   obtain⟨fa,fn,fc,hfv⟩:=ints_slice (own_ints (hS.wown k))
   have HLK:Hid (∀V,Below W.heap.size W V→(Instr.lookup 108 (.map (some mb)) (.int .i64 k) false).run Tryz.prog V = .ok (.slice fa fn fc) V):=fun V hV=>by
    rw[←hfv];exact (hS.below hV).lookup hki
   have HOW:Hid (∀V,Below W.heap.size W V→rows.Own V base (.slice fa fn fc) (m.Wt k)):=fun V hV=>by
    rw[←hfv];exact (hS.below hV).wown k
   have HRE:Hid (∀V,Below W.heap.size W V→IntsAt V (.slice (some ad) ln lc) (restM H p)):=fun V hV=>hK V (chP_below hV)
   have HWT:Hid (∀X,Below W.heap.size W X→∀v' w6,rows.Own w6 base v' (m.Wt k++restM H p)→Ch (blk (.slice fa fn fc)) X w6→(∀j ∈ blk v',j ∈ blk (.slice fa fn fc)∨X.heap.size≤j)→w6.cell? ⟨C,3,none⟩=some (.map (some mb))∧∃W2,(Instr.mapUpdate 108 (.map (some mb)) (.int .i64 k) v').run Tryz.prog w6 = .ok () W2∧∃m',MR W0 C mb base up (.slice a ds.length cap) (okW H ps) s m W m' W2∧MI H m'.M m'.Wt Q A):=fun X hX v' w6 h1 h3 h4=>by
    rw[←hfv]at h3 h4
    have hSX:=hS.below hX
    have hC:C ∉ blk (m.f k):=fun hc=>by have:=blk_lt (hSX.wown k) C hc;have:=hSX.c1;omega
    obtain⟨W2,D',hrun,mr⟩:=hSX.wait hki hkM h20 hok h1 h3 h4
    exact⟨(mkb_cells ((h3.block C (lt_of_block hSX.blk') hC).trans hSX.blk')).1.2.2.2,W2,hrun,_,mr.ahead hX,hI.wait hp hkk hkM⟩
   have HLN:Hid ((m.Wt k).length+(restM H p).length≤1048576):=by show _≤_;omega
   have HBL:Hid (∀X,Below W.heap.size W X→∀w6,Ch (blk (.slice fa fn fc)) X w6→∀P,base≤W.heap.size→W.heap.size≤P→P<X.heap.size→w6.heap[P]? = X.heap[P]?):=fun X hX w6 h3 P _ h5 h6=>h3.block P h6 (fun hc=>by
    rw[←hfv]at hc
    have:=blk_lt (hS.wown k) P hc
    omega)
   clear ST hv hF hr IH hN hS hI hp h2 hy hyo hok h20 hK hky HGO dA HI HS HK hyf hkk hki hkM HKI HKK HP HOK hwl hml hfv
   generalize restM H p=RS at *
   generalize m.Wt k=WS at *
   go_enter Tryz.func159,Tryz.ntmps159
   go_upto_region 1 with (go_at_call 117;refine ST1.mono ?_;clear ST1 z0 z1 z2 z3;rintro e w1 ⟨⟨i,hi,hpl,rfl⟩,b1⟩;have HB1:Hid _:=b1;obtain⟨sa,sn,sc,hsv⟩:=HSL.out _ (mem_getDP hi);obtain⟨d,hd⟩:∃d,ds.getD i pdD=d:=⟨_,rfl⟩;rw[hd]at hsv hpl ⊢; clear b1 hd;obtain⟨ds',df,dc,dh,dp,dm,du,dl⟩:=d;simp only at hsv hpl;subst hsv;subst hpl)
   have HB2:Hid _:=HB1.out.alloc HB1.out.size (pdb ⟨ds',df,dc,dh,dp,dm,.slice sa sn sc,dl⟩)
   have HQ2:Hid _:=heap_alloc_new w1 (pdb ⟨ds',df,dc,dh,dp,dm,.slice sa sn sc,dl⟩)
   have hp1:=HB1.out.size
   have hp2:w1.heap.size<(w1.alloc (pdb ⟨ds',df,dc,dh,dp,dm,.slice sa sn sc,dl⟩)).heap.size:=by simp
   obtain⟨⟨_,_,_,_,_,_,_,p7⟩,_⟩:=pdb_cells HQ2.out
   simp only at p7
   generalize w1.alloc (pdb ⟨ds',df,dc,dh,dp,dm,.slice sa sn sc,dl⟩)=Y at *
   generalize w1.heap.size=P at *
   have HAY:Hid _:=fun q=>HAS.out Y q HB2.out
   clear HAS
   go_quiet ((go_at_call 35;exact (HAY.out _).mono fun _ _ ⟨he,hm⟩=>⟨he,_,hm⟩))
   have BZ:Below W.heap.size W (Y.drewN nq).drew:=(HB2.out.trans ((bel_of_drewN ⟨nq,rfl⟩).mono HB2.out.size)).drew
   have BZ0:Below W.heap.size W (Y.drewN nq):=HB2.out.trans ((bel_of_drewN ⟨nq,rfl⟩).mono HB2.out.size)
   have q7:(Y.drewN nq).cell? ⟨P,7,none⟩=some (.int .i64 dl):=p7
   have q3:=HCE.out _ BZ0
   have lk:=HLK.out _ BZ
   have HO6:Hid _:=HOW.out _ BZ
   have HR6:Hid _:=HRE.out _ BZ
   have HW6:Hid _:=HWT.out _ BZ
   have hsz:base≤(Y.drewN nq).drew.heap.size:=Nat.le_trans hbz BZ.size
   have HP6:Hid (∀w6,Ch (blk (.slice fa fn fc)) (Y.drewN nq).drew w6→w6.cell? ⟨P,7,none⟩=some (.int .i64 dl)):=fun w6 h3=>by
    have e:=HBL.out _ BZ w6 h3 P hbz hp1 hp2
    have e2:w6.heap[P]? = some (pdb ⟨ds',df,dc,dh,dp,dm,.slice sa sn sc,dl⟩):=e.trans HQ2.out
    exact (pdb_cells e2).1.2.2.2.2.2.2.2
   clear HLK HOW HRE HWT HCE HBL BZ BZ0 p7 HAY HB1 HB2 HQ2
   go_wp2_with fail
   generalize Y.drewN nq=Z at *
   go_region_law (first
    |(refine step_appI rfl (.tmp 42) (.tmp 43) rfl base (.slice fa fn fc) WS rfl HO6.out ad ln lc RS rfl HR6.out HLN.out hsz ?_;intro va vn vc w6 hO hC hk;obtain⟨t3,W2,hrun,m',mr,mi⟩:=HW6.out _ w6 hO hC hk;have t7:=HP6.out w6 hC;have HMR:Hid _:=mr;have HMI:Hid _:=mi;clear hO hC hk mr mi lk HW6 HP6)
    |fail)
   all_goals go_wp2_with fail
   all_goals exact bodyPost_end (results_none rfl _ _ _) rfl ⟨rfl,m',HMR.out,HMI.out⟩
end Go.Proofs.YtocidankimefpaaGreatDoor.hp
