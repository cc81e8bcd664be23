/-
  Chapter 9 as the program has it: the chunks of a piece of a row, with their places. Chapter 8 as the program has it: FreeIn.
-/
import Derived.Test.YtemlagfaaibenaaGreatM8
import Derived.Test.YtemlagfaaibenaaGreatM4
import Derived.Test.YtemlagfaaibenaaGreatFreeI2
import Derived.Test.YtemlagfaaibenaaGreatM7
import Derived.Test.YtemlagfaaibenaaGreatWalkIWalk
namespace Go.Proofs.YtemlagfaaibenaaGreat.hp
open Go.RowKit rows heads words walks
set_option maxRecDepth 100000
set_option linter.unusedVariables false
set_option linter.unusedSimpArgs false
def pdsOf (a:Option Addr) (xs:List Int) (ps:List Int):List Pd:=ps.map (fun p=>pdOf a xs p.toNat)
theorem pdsOf_slices (a:Option Addr) (xs:List Int) (ps:List Int):SlicesP (pdsOf a xs ps):=by
 intro d hd
 obtain⟨p,_,rfl⟩:=List.mem_map.1 hd
 exact⟨_,_,_,rfl⟩
theorem pd_new (W:World) (d:Pd):∀j u,(cellsP [d])[j]? = some u→(W.alloc (pdb d)).cell? ((⟨W.heap.size,0,none⟩:Addr).add j)=some u:=by
 intro j u hj
 have e2:(⟨W.heap.size,0,none⟩:Addr).add j=⟨W.heap.size,j,none⟩:=by cases j<;>simp[Addr.add]
 rw[e2]
 have hl:j<8:=by have:=(List.getElem?_eq_some_iff.1 hj).1;simpa [cellsP] using this
 have hb:(W.alloc (pdb d)).heap[W.heap.size]? = some (pdb d):=heap_alloc_new W _
 rcases (show j=0∨j=1∨j=2∨j=3∨j=4∨j=5∨j=6∨j=7 by omega) with rfl|rfl|rfl|rfl|rfl|rfl|rfl|rfl
 all_goals
  simp only[cellsP,List.getElem?_cons_zero,List.getElem?_cons_succ,Option.some.injEq]at hj
  subst hj
  unfold World.cell?
  rw[hb]
  rfl
theorem ownP_app {W:World} {base:Nat} {v:Value} {ds:List Pd} {d:Pd} (h:W.ownsRow base 46 8 v (ds.length+1) (cellsP ds++cellsP [d])):OwnP W base v (ds++[d]):=by
 unfold OwnP
 rw[cellsP_append,List.length_append]
 exact h
theorem ownP_first {W:World} {base g:Nat} (hg:W.heap[g]? = some (.cells #[] 46 (0,0))) (hb:base≤g):OwnP W base (.slice (some ⟨g,0,none⟩) 0 0) []:=
 ⟨rfl,.inr ⟨g,0,#[],rfl,hb,hg,Nat.le_refl _,by decide,rfl,rfl⟩⟩
set_option maxHeartbeats 8000000 in
theorem placedIn_any {w:World} {a:Option Addr} {cap:Nat} {xs:List Int} (h:IntsAt w (.slice a xs.length cap) xs) (hl:xs.length≤1048576) (ha:AllI xs) (f t:Int) (hf:I64 f) (ht:I64 t) :
    Calls Tryz.prog 104 #[.slice a xs.length cap,.int .i64 f,.int .i64 t] w fun e w'=>∃v',e = .returned (.tuple #[v',.bool (walkOk xs f t)])∧OwnP w' w.heap.size v' (pdsOf a xs (walked xs f t))∧Below w.heap.size w w':=by
 obtain⟨L,hL⟩:∃L,walked xs f t=L:=⟨_,rfl⟩
 obtain⟨ok,hok⟩:∃ok,walkOk xs f t=ok:=⟨_,rfl⟩
 have HM:Hid (∀x ∈ L,∃j:Nat,x=j∧j<xs.length∧rowOk xs=true∧chunk xs j≠0):=fun x hx=>walked_mem (hL▸hx)
 have hLl:L.length≤1000:=by have:=(walked_length xs f t).1;rw[hL]at this;exact this
 have WK:=implWalk w _ xs f t h hl ha hf ht
 rw[hL,hok]at WK
 rw[hL,hok]
 obtain⟨i0,hi,hz0,hz1,hz2⟩:=info_parts infoP
 have HI:Hid _:=And.intro hi (And.intro hz0 (And.intro hz1 hz2))
 have HH:Hid (IntsAt w (.slice a xs.length cap) xs):=h
 have HA:Hid _:=ha
 clear hL hok hi hz0 hz1 hz2 h ha
 go_enter Tryz.func104,Tryz.ntmps104
 go_wp2_with fail
 refine WK.mono ?_
 clear WK
 rintro e w1 ⟨vl,rfl,O1,b1⟩
 have HO1:Hid (rows.Own w1 w.heap.size vl L):=O1
 obtain⟨la,lc,rfl,hl1,hl2,_,_⟩:=own_ints O1
 have HB1:Hid _:=b1
 have s1:=b1.size
 have OE:OwnP (w1.alloc (.cells #[] 46)) w.heap.size (.slice (some ⟨w1.heap.size,0,none⟩) 0 0) []:=ownP_first (heap_alloc_new w1 _) s1
 have BE:Below w.heap.size w (w1.alloc (.cells #[] 46)):=b1.alloc s1 _
 have HOE:Hid _:=OE
 have HBE:Hid _:=BE
 have HOL:Hid (rows.Own (w1.alloc (.cells #[] 46)) w.heap.size (.slice la L.length lc) L):=own_below HO1.out ((Below.refl _ _).alloc (Nat.le_refl _) _)
 have HLT:Hid (∀k,(Value.slice la L.length lc).ownBlock=some k→k<w1.heap.size):=fun k e=>(World.ownsRow.lt HO1.out k e).2
 have sX:w1.heap.size≤(w1.alloc (.cells #[] 46)).heap.size:=by simp
 clear O1 b1 OE BE
 go_wp2_with fail
 generalize (w1.alloc (.cells #[] 46))=X at *
 go_loopw [10,25] (fun o i wr=>∃(k:Nat) (v:Value),v=o∧k≤L.length∧i = .int .i64 (k:Int)∧OwnP wr w.heap.size v (pdsOf a xs (L.take k))∧(∀b,v.ownBlock=some b→w1.heap.size≤b)∧rows.Own wr w.heap.size (.slice la L.length lc) L∧w1.heap.size≤wr.heap.size∧Below w.heap.size w wr) (fun _ i _=>L.length-(intOf i).toNat)
 case atStart=>exact⟨0,_,rfl,Nat.zero_le _,rfl,HOE.out,fun b e=>by simp[Value.ownBlock]at e;omega,HOL.out,sX,HBE.out⟩
 case round=>
  obtain⟨k,v,rfl,hk,rfl,hO,hbk,hOL,hws,hB⟩:=hrel
  by_cases hlt:k<L.length
  ·have hlt':(k:Int)<(L.length:Int):=by omega
   obtain⟨j,hj,hjl,hro,hch⟩:=HM.out (L.getD k 0) (by rw[List.getD_eq_getElem?_getD,List.getElem?_eq_getElem hlt];exact List.getElem_mem hlt)
   obtain⟨la',lc',e',_,_,_,hcy⟩:=own_ints hOL
   injection e' with e1 e2 e3
   subst e1 e3
   obtain⟨lb,lo,rfl,_,hcy⟩:=hcy (by omega)
   have x0:=hcy k hlt
   rw[hj]at x0
   have hokj:okAt xs (j:Int)=true:=by simp only[okAt,atOk,hro,Bool.true_and,Bool.and_eq_true,decide_eq_true_eq];omega
   have CH:=chunkOf_in (intsAt_below HH.out hB) hl HA.out j hokj
   have ech:chRes a xs j = .tuple #[cv (uS (xs.getD j 0)) (uF (xs.getD j 0)) (uC (xs.getD j 0)) (uH (xs.getD j 0)) (uP (xs.getD j 0)) (uM (xs.getD j 0)) (piece a j (chunk xs j).toNat),.bool true]:=by unfold chRes;rw[if_neg hch]
   rw[ech]at CH
   obtain⟨pa,pn,pc,hpe⟩:∃pa pn pc,piece a j (chunk xs j).toNat = .slice pa pn pc:=⟨_,_,_,rfl⟩
   have HPD:Hid (pdOf a xs j=⟨uS (xs.getD j 0),uF (xs.getD j 0),uC (xs.getD j 0),uH (xs.getD j 0),uP (xs.getD j 0),uM (xs.getD j 0),.slice pa pn pc,j⟩):=by show pdOf a xs j=_;unfold pdOf;rw[hpe]
   have HNX:Hid (pdsOf a xs (L.take (k+1))=pdsOf a xs (L.take k)++[pdOf a xs j]):=by
    show pdsOf a xs (L.take (k+1))=_
    unfold pdsOf
    rw[List.take_add_one,List.map_append,List.getElem?_eq_getElem hlt]
    have:L[k]=(j:Int):=by rw[←hj,List.getD_eq_getElem?_getD,List.getElem?_eq_getElem hlt];rfl
    simp[this]
   rw[hpe]at CH
   rw[HPD.out]at HNX
   have hdl:(pdsOf a xs (L.take k)).length=k:=by unfold pdsOf;simp;omega
   clear hj hcy ech hpe hokj hro hch HPD
   generalize uF (xs.getD j 0)=f' at *
   generalize uS (xs.getD j 0)=s' at *
   generalize uC (xs.getD j 0)=c' at *
   generalize uH (xs.getD j 0)=g' at *
   generalize uP (xs.getD j 0)=p' at *
   generalize uM (xs.getD j 0)=m' at *
   generalize pdsOf a xs (L.take k)=ds at *
   have HOV:Hid _:=hO
   have HOL2:Hid _:=hOL
   have HB2:Hid _:=hB
   have HBK:Hid _:=hbk
   clear hO hOL hB hbk
   go_wp2_with fail
   refine CH.mono ?_
   clear CH
   rintro e w3 ⟨rfl,b3⟩
   have s3:=b3.size
   have B4:Below wr.heap.size wr (w3.alloc (cb s' f' c' g' p' m' (.slice pa pn pc))):=b3.alloc b3.size _
   have T4:=chAt_new w3 s' f' c' g' p' m' (.slice pa pn pc)
   obtain⟨t0,t1,t2,t3,t4,t5,t6,_⟩:=chAt_cells T4
   have O4:=ownP_below HOV.out B4
   have L4:=own_below HOL2.out B4
   have W4:=HB2.out.trans (B4.mono HB2.out.size)
   have s4:w3.heap.size<(w3.alloc (cb s' f' c' g' p' m' (.slice pa pn pc))).heap.size:=by simp
   obtain⟨va,vc,rfl⟩:=pds_slice (ownP_at HOV.out)
   have HDL:Hid _:=hdl
   have bdl:ds.length≤1000:=by omega
   clear hdl HOV HOL2 HB2 b3 T4
   go_upto_region 7 with fail
   generalize hY:w3.alloc (cb s' f' c' g' p' m' (.slice pa pn pc))=Y at *
   clear hY B4
   have HOA:Hid ((Y.alloc (pdb ⟨s',f',c',g',p',m',.slice pa pn pc,j⟩)).ownsRow w.heap.size 46 8 (.slice va ds.length vc) ds.length (cellsP ds)):=World.ownsRow.alloc O4 _
   have HNW:Hid _:=pd_new Y ⟨s',f',c',g',p',m',.slice pa pn pc,j⟩
   have HON:Hid (∀v ∈ cellsP [(⟨s',f',c',g',p',m',.slice pa pn pc,j⟩:Pd)],v.oneCell'=true):=cellsP_one (fun d hd=>by rw[List.mem_singleton]at hd;subst hd;exact⟨_,_,_,rfl⟩)
   have sb:w.heap.size≤(Y.alloc (pdb ⟨s',f',c',g',p',m',.slice pa pn pc,j⟩)).heap.size:=by have:=W4.size;simp;omega
   have HSTEP:Hid (∀(v':Value) (w5:World),w5.ownsRow w.heap.size 46 8 v' (ds.length+1) (cellsP ds++cellsP [(⟨s',f',c',g',p',m',.slice pa pn pc,j⟩:Pd)])→(Y.alloc (pdb ⟨s',f',c',g',p',m',.slice pa pn pc,j⟩)).grownBy w5 (Value.slice va ds.length vc).ownBlock→(v'.ownBlock=(Value.slice va ds.length vc).ownBlock∨v'.ownBlock=some (Y.alloc (pdb ⟨s',f',c',g',p',m',.slice pa pn pc,j⟩)).heap.size)→(∃a n c,v' = .slice a n c)∧OwnP w5 w.heap.size v' (pdsOf a xs (L.take (k+1)))∧(∀b,v'.ownBlock=some b→w1.heap.size≤b)∧rows.Own w5 w.heap.size (.slice (some ⟨lb,lo,none⟩) L.length lc) L∧w1.heap.size≤w5.heap.size∧Below w.heap.size w w5):=by
    intro v' w5 h1 h2 h3
    have O5:=ownP_app h1
    have hv:=pds_slice (ownP_at O5)
    have C1:Ch (blk (Value.slice va ds.length vc)) Y (Y.alloc (pdb ⟨s',f',c',g',p',m',.slice pa pn pc,j⟩)):=ch_below ((Below.refl _ _).alloc (Nat.le_refl _) _)
    have C2:=C1.trans (ch_grown h2)
    have hsz:=C2.size
    refine⟨?_,?_,?_,?_,by omega,?_⟩
    ·obtain⟨a',c',e⟩:=hv;exact⟨a',_,c',e⟩
    ·rw[HNX.out];exact O5
    ·intro b hb
     rcases h3 with h3|h3
     ·exact HBK.out b (by rw[←h3];exact hb)
     ·rw[h3]at hb;injection hb with hb;simp at hb;omega
    ·refine row_ch L4 C2 (fun q hq e => ?_)
     have q1:=HLT.out q (by unfold blk at hq;exact Option.mem_toList.1 hq)
     have q2:=HBK.out q (by unfold blk at e;exact Option.mem_toList.1 e)
     omega
    ·exact W4.trans (below_ch C2 W4.size (fun q hq=>(blk_lt O4 q hq).1))
   clear O4 L4 W4
   go_wp2_with (refine wpList_append_own_at _ rfl (.tmp 35) (.tmp 39) 53 rfl w.heap.size 46 i0 (pdv pdD) 8 72 Tryz.underlying53 HI.out.1 HI.out.2.1 HI.out.2.2.1 HI.out.2.2.2 rfl (by decide) (.slice va ds.length vc) ds.length (cellsP ds) rfl HOA.out ⟨Y.heap.size,0,none⟩ 1 1 (cellsP [(⟨s',f',c',g',p',m',.slice pa pn pc,j⟩:Pd)]) rfl rfl HNW.out HON.out (by unfold maxLen;omega) (by omega) sb ?_;intro v' w5 h1 h2 _ h3;obtain⟨⟨na,nn,nc,rfl⟩,hh⟩:=HSTEP.out v' w5 h1 h2 h3;have HFN:Hid _:=hh;clear h1 h2 h3 hh HSTEP HOA HNW HON)
   exact⟨⟨k+1,_,rfl,by omega,by go_num,HFN.out.1,HFN.out.2.1,HFN.out.2.2.1,HFN.out.2.2.2.1,HFN.out.2.2.2.2⟩,by simp[intOf];omega⟩
  ·have hlt':¬(k:Int)<(L.length:Int):=by omega
   have HF:Hid (OwnP wr w.heap.size v (pdsOf a xs L)):=by
    show OwnP _ _ _ _
    have:=hO
    rwa [List.take_of_length_le (show L.length≤k by omega)]at this
   have HBF:Hid _:=hB
   obtain⟨va,vc,rfl⟩:=pds_slice (ownP_at hO)
   clear hO hbk hOL hB
   go_wp2
   go_ret2
   exact⟨_,rfl,HF.out,HBF.out⟩
end Go.Proofs.YtemlagfaaibenaaGreat.hp
namespace Go.Proofs.YtemlagfaaibenaaGreat.walks
open Go.RowKit rows heads words
set_option maxRecDepth 100000
set_option maxHeartbeats 4000000 in
theorem implFreeIn (w:World) (v:Value) (xs:List Int) (f:Int) (t:Int) (h:IntsAt w v xs) (hl:xs.length≤1048576) (ha:AllI xs) (hf:I64 f) (ht:I64 t) :
    Calls Tryz.prog 127 #[v,.int .i64 f,.int .i64 t] w fun e w'=>∃v',e = .returned v'∧rows.Own w' w.heap.size v' (freeIn xs f t)∧Below w.heap.size w w':=by
 obtain⟨i0,hi,hz0,hz1,hz2⟩:=info_parts info
 have HI:Hid _:=And.intro hi (And.intro hz0 (And.intro hz1 hz2))
 have WK:=implWalk w v xs f t h hl ha hf ht
 have HM:∀x ∈ walked xs f t,∃j:Nat,x=j∧j<xs.length∧okAt xs j=true∧chunk xs j≠0:=fun x hx=>by
  obtain⟨j,e1,e2,e3,e4⟩:=walked_mem hx
  exact⟨j,e1,e2,by simp only[okAt,Bool.and_eq_true];exact⟨e3,by simp[atOk];omega⟩,e4⟩
 have hLl:(walked xs f t).length≤1048576:=Nat.le_trans (walked_length xs f t).1 (by decide)
 unfold freeIn
 obtain⟨L,hLe⟩:∃L,walked xs f t=L:=⟨_,rfl⟩
 obtain⟨isS,hSe⟩:∃L,walkOk xs f t=L:=⟨_,rfl⟩
 rw[hLe]at HM hLl WK
 rw[hSe]at WK
 rw[hLe]
 have HM:Hid _:=HM
 clear hLe hSe hi hz0 hz1 hz2
 have h':=h
 obtain⟨a,cap,rfl,hlc,hcm,_,_⟩:=h
 have HC:Hid (∀(W:World) (j:Nat),Below w.heap.size w W→okAt xs j=true→Calls Tryz.prog 130 #[.slice a xs.length cap,.int .i64 j] W fun e w'=>e = .returned (chRes a xs j)∧Below W.heap.size W w'):=fun W j hW d=>chunkOf_in (intsAt_below h' hW) hl ha j d
 go_enter Tryz.func127,Tryz.ntmps127
 go_wp2_with fail
 refine WK.mono ?_
 rintro e w1 ⟨vl,rfl,OL,b1⟩
 have s1:=b1.size
 have HOL:Hid _:=own_below OL ((Below.refl w1.heap.size w1).alloc (Nat.le_refl _) (.cells #[] 2))
 have HIL:Hid (rows.In w.heap.size w1.heap.size vl):=own_in OL
 have HOO:Hid _:=own_nothing w1 w.heap.size s1
 have HB1:Hid (Below w.heap.size w (w1.alloc (.cells #[] 2))):=Below.alloc b1 s1 _
 obtain⟨la,lcap,rfl,llc,lcm,_,_⟩:=own_ints OL
 clear WK OL b1
 go_wp2_with fail
 go_loopw [9,24] (fun u i wr=>∃(k:Nat) (u0:Value),u0=u∧k≤L.length∧i = .int .i64 (k:Int)∧rows.Own wr w.heap.size u0 ((L.take k).filter (isFreeAt xs))∧(∀b,u0.ownBlock=some b→w1.heap.size≤b)∧rows.Own wr w.heap.size (.slice la L.length lcap) L∧w1.heap.size≤wr.heap.size∧Below w.heap.size w wr) (fun _ i _=>L.length-(intOf i).toNat)
 case atStart=>exact⟨0,_,rfl,Nat.zero_le _,rfl,HOO.out,fun b e=>by simp[Value.ownBlock]at e;omega,HOL.out,by simp,HB1.out⟩
 case round=>
  obtain⟨k,u0,rfl,hk,rfl,hO,hbk,hL,hws,hB⟩:=hrel
  by_cases hlt:k<L.length
  ·have hlt':(k:Int)<(L.length:Int):=by omega
   obtain⟨la',lcap',e',_,_,_,hcy⟩:=own_ints hL
   injection e' with e1 e2 e3
   subst e1 e3
   obtain⟨lb,loff,rfl,_,hcy⟩:=hcy (by omega)
   have c0:=hcy k hlt
   have HFN:Hid _:=filter_next (p:=isFreeAt xs) hlt
   obtain⟨j,hj,hjl,hjo,hj0⟩:=HM.out (L.getD k 0) (by rw[List.getD_eq_getElem?_getD,List.getElem?_eq_getElem hlt];exact List.getElem_mem hlt)
   have hfr:isFreeAt xs (L.getD k 0)=(uF (xs.getD j 0)==6):=by rw[hj];rfl
   rw[hfr]at HFN
   rw[hj]at c0 HFN
   have CH:=HC.out _ j hB hjo
   unfold chRes at CH
   rw[if_neg hj0]at CH
   unfold piece at CH
   clear hfr hj hcy hj0 hjo
   generalize uF (xs.getD j 0)=f6 at *
   generalize uS (xs.getD j 0)=s at *
   generalize uC (xs.getD j 0)=c1 at *
   generalize uH (xs.getD j 0)=g at *
   generalize uP (xs.getD j 0)=p at *
   generalize uM (xs.getD j 0)=m at *
   generalize (chunk xs j).toNat=N at *
   generalize (if N=0 then a else Option.map (fun x=>x.add j) a)=ad at *
   have HO:Hid _:=hO
   have HL:Hid _:=hL
   have HB:Hid _:=hB
   have HBK:Hid _:=hbk
   have sr:=hB.size
   clear hO hL hB hbk
   go_wp2_with fail
   refine CH.mono ?_
   rintro e w2 ⟨rfl,b2⟩
   have s2:=b2.size
   have b3:Below wr.heap.size wr ((w2.alloc (cb s f6 c1 g p m (.slice ad N N))).alloc (cb s f6 c1 g p m (.slice ad N N))):=(b2.alloc s2 _).alloc (by simp;omega) _
   clear CH b2
   go_wp2_with fail
   refine (isFree_any _ _ _ _ _ _ _ _).mono ?_
   rintro e Y ⟨rfl,hY⟩
   rw[←hY]at b3
   clear hY
   have O2:=own_below HO.out b3
   have L2:=own_below HL.out b3
   have B2:=HB.out.trans (b3.mono sr)
   have c2:=(b3.cell (p:=⟨lb,loff+k,none⟩) (World.block_lt_of_cell? _ _ c0)).trans c0
   have s3:=b3.size
   clear b3 c0
   by_cases h6:f6=6
   ·subst h6
    rw[show ((6:Int)==6)=true from rfl,if_pos rfl]at HFN
    generalize hqs:(L.take k).filter (isFreeAt xs)=qs at *
    have hql:qs.length≤1048576:=by rw[←hqs];exact Nat.le_trans (List.length_filter_le _ _) (by simp;omega)
    clear hqs
    obtain⟨va,vcp,rfl,_,_,_,_⟩:=own_ints O2
    have HOA:Hid (rows.Own (Y.alloc (.cells #[.int .i64 (j:Int)] 2)) w.heap.size (.slice va qs.length vcp) qs):=World.ownsRow.alloc O2 _
    have hba:w.heap.size≤(Y.alloc (.cells #[.int .i64 (j:Int)] 2)).heap.size:=by have:=B2.size;simp;omega
    have HNW:Hid _:=one_int Y (j:Int)
    have HSTEP:Hid (∀(v':Value) (w5:World),w5.ownsRow w.heap.size 2 1 v' (qs.length+1) (cellsOf qs++[.int .i64 (j:Int)])→(Y.alloc (.cells #[.int .i64 (j:Int)] 2)).grownBy w5 (Value.slice va qs.length vcp).ownBlock→(v'.ownBlock=(Value.slice va qs.length vcp).ownBlock∨v'.ownBlock=some (Y.alloc (.cells #[.int .i64 (j:Int)] 2)).heap.size)→(∃a n c,v' = .slice a n c)∧rows.Own w5 w.heap.size v' ((L.take (k+1)).filter (isFreeAt xs))∧(∀b,v'.ownBlock=some b→w1.heap.size≤b)∧rows.Own w5 w.heap.size (.slice (some ⟨lb,loff,none⟩) L.length lcap) L∧w1.heap.size≤w5.heap.size∧Below w.heap.size w w5):=fun v' w5 h1 h2 h3=>by
     obtain⟨on,gr,nb⟩:=app_int h1 h2 h3
     rw[HFN.out]
     obtain⟨a',c',e',_⟩:=own_ints on
     refine⟨⟨_,_,_,e'⟩,on,fun b hb => ?_,?_,Nat.le_trans (Nat.le_trans hws s3) gr.size,below_grown B2 gr (own_lt O2) B2.size⟩
     ·rcases nb b hb with e|e
      ·exact HBK.out b e
      ·omega
     ·refine World.ownsRow.kept L2 gr ?_
      right
      intro e
      have q1:=HIL.out lb rfl
      have q2:=HBK.out lb (by rw[←e];rfl)
      omega
    clear O2 L2 HO HL HBK HB HFN
    go_wp2_with (refine wpList_append_own_at _ rfl (.tmp 36) (.tmp 38) 22 rfl w.heap.size 2 i0 (.int .i64 0) 1 8 Tryz.underlying22 HI.out.1 HI.out.2.1 HI.out.2.2.1 HI.out.2.2.2 rfl (by decide) (.slice va qs.length vcp) qs.length (cellsOf qs) rfl HOA.out ⟨Y.heap.size,0,none⟩ 1 1 [.int .i64 (j:Int)] rfl rfl HNW.out (by simp[Value.oneCell']) (by unfold maxLen;omega) (by omega) hba ?_;intro v' w5 hown hgrow _ hat;obtain⟨⟨va',vn',vc',rfl⟩,st⟩:=HSTEP.out v' w5 hown hgrow hat;have HST:Hid _:=st;clear st hown hgrow hat)
    exact⟨⟨k+1,_,rfl,by omega,by go_num,HST.out⟩,by simp[intOf];omega⟩
   ·have h6':(f6==6)=false:=by simpa using h6
    rw[h6',if_neg (by simp),List.append_nil]at HFN
    have HST:Hid (rows.Own Y w.heap.size u0 ((L.take (k+1)).filter (isFreeAt xs))∧(∀b,u0.ownBlock=some b→w1.heap.size≤b)∧rows.Own Y w.heap.size (.slice (some ⟨lb,loff,none⟩) L.length lcap) L∧w1.heap.size≤Y.heap.size∧Below w.heap.size w Y):=⟨by rw[HFN.out];exact O2,HBK.out,L2,Nat.le_trans hws s3,B2⟩
    clear O2 L2 HO HL HBK HB HFN B2
    go_wp2
    exact⟨⟨k+1,_,rfl,by omega,by go_num,HST.out⟩,by simp[intOf];omega⟩
  ·have e:k=L.length:=by omega
   subst e
   rw[List.take_length]at hO
   have HF:Hid _:=hO
   have HB:Hid _:=hB
   have hlt':¬(L.length:Int)<(L.length:Int):=by omega
   clear hO hB hbk hL
   go_wp2
   go_ret
   exact⟨_,rfl,HF.out,HB.out⟩
end Go.Proofs.YtemlagfaaibenaaGreat.walks
