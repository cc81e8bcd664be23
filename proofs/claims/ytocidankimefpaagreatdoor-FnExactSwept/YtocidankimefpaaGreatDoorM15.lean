/-
  slices.Concat of lists of numbers, however many. Chapter 8 as the program has it: Freed. Chapter 8 as the program has it: FreeIn. Chapter 8 as the program has it: the runs of free chunks.
-/
import Derived.Test.YtocidankimefpaaGreatDoorM7
import Derived.Test.YtocidankimefpaaGreatDoorM14
import Derived.Lib.AppendZerosOnto
import Derived.Laws.AppendOwnNone
import Derived.Test.YtocidankimefpaaGreatDoorM10
import Derived.Test.YtocidankimefpaaGreatDoorM5
import Derived.Test.YtocidankimefpaaGreatDoorM1
import Derived.Test.YtocidankimefpaaGreatDoorM13
import Derived.Test.YtocidankimefpaaGreatDoorM6
import Derived.Deep.AppendLies
namespace Go.Proofs.YtocidankimefpaaGreatDoor.hp
open Go.RowKit rows heads words walks
set_option maxRecDepth 100000
set_option linter.unusedVariables false
set_option linter.unusedSimpArgs false
theorem wpList_growI {w:World} {ops:Array Oper} {rest:List Oper} {o:Oper} {act:Act} {Q:Exit→Act→World→Prop} (hgd:o.guard=none) (s x:Operand) (ho:o.op = .call { callee:=.builtin .append,args:=#[s,x],argTypes:=#[22,3] })
    (hs:act.eval s = .slice none 0 0) (k:Nat) (h0:0<k) (hk:k≤100000) (hx:act.eval x = .int .i64 (k:Int))
    (hK:∀cap w',k≤cap→cap≤maxLen→rows.Own w' w.heap.size (.slice (some ⟨w.heap.size,0,none⟩) 0 cap) []→Below w.heap.size w w'→wpList Tryz.prog ops Q rest (act.put o.dst (.slice (some ⟨w.heap.size,0,none⟩) k cap)) w') :
    wpList Tryz.prog ops Q (o :: rest) act w:=by
 obtain⟨i0,hi,hz0,hz1,hz2⟩:=info_parts info
 refine wpList_plain hgd fun K hK' => ?_
 have hrun:=Go.Lib.run_append_grow_zeros (P:=Tryz.prog) w 22 3 o.type 2 i0 (.int .i64 0) .i64 .i64 Tryz.underlying22 Tryz.underlying3 hi hz0 none 0 0 [] (by simp[Builtin.firstCells]) k h0 (by rw[hz1];decide) (by omega) (by omega) (by rw[hz2];omega) (by rw[hz2];unfold Builtin.nextslicecap;simp;split<;>omega)
 unfold Oper.wp
 simp[execOp,ho,resolve,invoke,builtin,hs,hx,hrun,Result.andThen]
 have hge:=grownCap_ge w (0+k) 0 2
 have hle:=grownCap_le_maxLen w (0+k) 0 2 (by unfold maxLen;omega)
 rw[Nat.zero_add]at hge hle
 refine hK' _ _ (hK _ _ hge hle ?_ ((Below.refl _ w).drew.alloc (Nat.le_refl _) _))
 refine⟨rfl,.inr ⟨w.heap.size,_,_,rfl,Nat.le_refl _,heap_alloc_new w.drew _,Nat.zero_le _,hle,?_,by simp[cellsOf]⟩⟩
 simp[size_zeroCells,Value.cells]
 omega
set_option maxHeartbeats 4000000 in
theorem growI_any (k:Nat) (hk:k≤100000) (w:World) :
    Calls Tryz.prog 120 #[.slice none 0 0,.int .i64 (k:Int)] w fun e w'=>∃v',e = .returned v'∧rows.Own w' w.heap.size v' []∧Below w.heap.size w w':=by
 by_cases h0:k=0
 ·subst h0
  go_enter Tryz.func120,Tryz.ntmps120
  go_wp2
  go_ret
  exact⟨_,rfl,World.ownsRow_nil _ _ _ _,Below.refl _ _⟩
 ·have hp:0<k:=by omega
  have hp1:(k:Int) > 0:=by omega
  have hp2:¬(k:Int)<0:=by omega
  go_enter Tryz.func120,Tryz.ntmps120
  go_wp2_with (refine wpList_growI rfl (.tmp 20) (.tmp 21) rfl (by first|rfl|(simp[go_sem];done)) k hp hk (by first|rfl|(simp[go_sem];done)) ?_;intro cap w2 hc1 hc2 hO hB;have HO:Hid _:=hO;have HB:Hid _:=hB;have hc3:cap≤9223372036854775807:=hc2;clear hO hB)
  go_ret
  exact⟨_,rfl,HO.out,HB.out⟩
theorem wpList_app_ints {w:World} {ops:Array Oper} {rest:List Oper} {o:Oper} {act:Act} {Q:Exit→Act→World→Prop} (hgd:o.guard=none) (s x:Operand) (ho:o.op = .call { callee:=.builtin .append,args:=#[s,x],argTypes:=#[22,22] })
    (base:Nat) (v:Value) (ds:List Int) (hs:act.eval s=v) (hown:rows.Own w base v ds) (u:Value) (es:List Int) (hx:act.eval x=u) (hU:IntsAt w u es) (hb:ds.length+es.length≤100000) (hbase:base≤w.heap.size)
    (hK:∀v' w',rows.Own w' base v' (ds++es)→Ch (blk v) w w'→wpList Tryz.prog ops Q rest (act.put o.dst v') w') :
    wpList Tryz.prog ops Q (o :: rest) act w:=by
 obtain⟨i0,hi,hz0,hz1,hz2⟩:=info_parts info
 obtain⟨ad,cap,e,hlc,hcm,hnil,_⟩:=id hU
 subst e
 cases ad with
 |some ad=>
  refine wpList_append_own_at _ hgd s x _ ho base 2 i0 (.int .i64 0) 1 8 Tryz.underlying22 hi hz0 hz1 hz2 rfl (by decide) v ds.length (cellsOf ds) hs hown ad es.length cap (cellsOf es) hx (by simp) (ints_news hU) (cellsI_one es) (by unfold maxLen;omega) (by omega) hbase ?_
  intro v' w' h1 h2 _ _
  refine hK v' w' ?_ (ch_grown h2)
  show World.ownsRow _ _ _ _ _ _ _
  rw[cellsI_append,List.length_append]
  exact h1
 |none=>
  have hc:=hnil rfl
  have hy:es=[]:=List.eq_nil_of_length_eq_zero (by omega)
  subst hy hc
  refine wpList_plain hgd fun K hK' => ?_
  have hrun:=run_append_owned_none (P:=Tryz.prog) (w:=w) base 22 o.type 2 i0 1 Tryz.underlying22 hi v ds.length (cellsOf ds) hown
  have hx':act.eval x = .slice none 0 0:=hx
  unfold Oper.wp
  simp[execOp,ho,resolve,invoke,builtin,hs,hx',hrun,Result.andThen]
  exact hK' _ _ (hK v w (by rw[List.append_nil];exact hown) (Ch.refl _ _))
def ListsAt (w:World) (v:Value) (ls:List (List Int)):Prop:=∃b c,v = .slice (some ⟨b,0,none⟩) ls.length c∧b<w.heap.size∧∀i,i<ls.length→∃u,w.cell? ⟨b,i,none⟩=some u∧IntsAt w u (ls.getD i [])
theorem flat_next {ls:List (List Int)} {k:Nat} (hk:k<ls.length):(ls.take (k+1)).flatten=(ls.take k).flatten++ls.getD k []:=by
 rw[List.take_add_one,List.flatten_append,List.getElem?_eq_getElem hk,List.getD_eq_getElem?_getD,List.getElem?_eq_getElem hk]
 simp
theorem flat_le (ls:List (List Int)) (k:Nat):(ls.take k).flatten.length≤ls.flatten.length:=by
 have:ls.flatten=(ls.take k).flatten++(ls.drop k).flatten:=by rw[←List.flatten_append,List.take_append_drop]
 rw[this,List.length_append]
 omega
set_option maxHeartbeats 8000000 in
theorem concatI_any {w:World} {v:Value} {ls:List (List Int)} (h:ListsAt w v ls) (hn:ls.length≤100000) (hs:ls.flatten.length≤100000) :
    Calls Tryz.prog 73 #[v] w fun e w'=>∃v',e = .returned v'∧rows.Own w' w.heap.size v' ls.flatten∧Below w.heap.size w w':=by
 obtain⟨b,c,rfl,hbl,hcell⟩:=h
 have HC:Hid _:=hcell
 have HFN:Hid (∀k,k<ls.length→(ls.take (k+1)).flatten=(ls.take k).flatten++ls.getD k []):=fun k hk=>flat_next hk
 have HFL:Hid (∀k,(ls.take k).flatten.length≤100000):=fun k=>Nat.le_trans (flat_le ls k) hs
 have HF0:Hid ((ls.take 0).flatten=[]):=rfl
 have HFE:Hid ((ls.take ls.length).flatten=ls.flatten):=by show _=_;rw[List.take_length]
 clear hcell hs
 go_enter Tryz.func73,Tryz.ntmps73
 go_wp2_with fail
 go_loopw [3,5,11] (fun z _ q wr=>∃k:Nat,k≤ls.length∧q = .int .i64 (k:Int)∧z = .int .i64 (((ls.take k).flatten.length:Nat):Int)∧wr=w) (fun _ _ q _=>ls.length-(intOf q).toNat)
 case atStart=>exact⟨0,Nat.zero_le _,rfl,rfl,rfl⟩
 case round=>
  obtain⟨k,hk,rfl,rfl,hw⟩:=hrel
  have hw':=hw.symm
  clear hw
  subst hw'
  by_cases hlt:k<ls.length
  ·have hlt':(k:Int)<(ls.length:Int):=by omega
   obtain⟨u,hu,hi⟩:=HC.out k hlt
   obtain⟨ua,uc,rfl,_,_,_,_⟩:=hi
   have h1:=HFL.out k
   have h2:=HFL.out (k+1)
   rw[HFN.out k hlt,List.length_append]at h2
   have HE:Hid (((ls.take k).flatten.length:Int)+((ls.getD k []).length:Int)=(((ls.take (k+1)).flatten.length:Nat):Int)):=by
    show _=_
    rw[HFN.out k hlt,List.length_append]
    omega
   have p1:¬((ls.take k).flatten.length:Int)+((ls.getD k []).length:Int)<0:=by omega
   have p2:IntKind.i64.wrap (((ls.take k).flatten.length:Int)+((ls.getD k []).length:Int))=((ls.take k).flatten.length:Int)+((ls.getD k []).length:Int):=by rw[IntKind.wrap_i64];omega
   generalize (ls.take k).flatten.length=n1 at *
   generalize (ls.getD k []).length=n2 at *
   go_wp2
   exact⟨⟨k+1,by omega,by go_num,by rw[HE.out],by trivial⟩,by simp[intOf];omega⟩
  ·have hlt':¬(k:Int)<(ls.length:Int):=by omega
   have e:k=ls.length:=by omega
   subst e
   have h1:=HFL.out ls.length
   obtain⟨T,hT⟩:∃T:Nat,(ls.take ls.length).flatten.length=T:=⟨_,rfl⟩
   rw[hT]at h1
   have GR:=growI_any T h1 w
   rw[hT]
   clear hT
   go_wp2_with fail
   refine GR.mono ?_
   clear GR
   rintro e w2 ⟨v2,rfl,O2,b2⟩
   have HO2:Hid _:=O2
   have HB2:Hid _:=b2
   obtain⟨na,nn,nc,rfl⟩:=ints_slice (own_ints O2)
   clear O2 b2
   go_wp2_with fail
   go_loopw [6,8,27] (fun o _ q wz=>∃v,v=o∧∃k:Nat,k≤ls.length∧q = .int .i64 (k:Int)∧rows.Own wz w.heap.size v (ls.take k).flatten∧Below w.heap.size w wz) (fun _ _ q _=>ls.length-(intOf q).toNat)
   case atStart=>exact⟨_,rfl,0,Nat.zero_le _,rfl,by rw[HF0.out];exact HO2.out,HB2.out⟩
   case round=>
    obtain⟨v,rfl,k,hk,rfl,hO,hB⟩:=hrel
    clear HO2 HB2
    have HB:Hid _:=hB
    have sB:=hB.size
    have HOV:Hid _:=hO
    obtain⟨va,vn,vc,rfl⟩:=ints_slice (own_ints hO)
    by_cases hlt:k<ls.length
    ·have hlt':(k:Int)<(ls.length:Int):=by omega
     obtain⟨u,hu,hi⟩:=HC.out k hlt
     have HU:Hid _:=intsAt_below hi hB
     obtain⟨ua,uc,rfl,_,_,_,_⟩:=hi
     have z0:=(hB.cell (p:=⟨b,k,none⟩) hbl).trans hu
     have h2:=HFL.out (k+1)
     rw[HFN.out k hlt,List.length_append]at h2
     have HE:Hid _:=HFN.out k hlt
     have HBL:Hid _:=blk_lt hO
     clear hO hB hu
     generalize ls.getD k []=es at *
     generalize (ls.take k).flatten=fl at *
     go_wp2_with (refine wpList_app_ints rfl (.tmp 31) (.tmp 32) rfl w.heap.size (.slice va vn vc) fl (by first|rfl|(simp[go_sem];done)) HOV.out (.slice ua es.length uc) es (by first|rfl|(simp[go_sem];done)) HU.out (by omega) sB ?_;intro v' w5 h5 c5;have HO5:Hid _:=h5;have HB5:Hid (Below w.heap.size w w5):=HB.out.trans (below_ch c5 sB (fun z hz=>(HBL.out z hz).1));obtain⟨va',vn',vc',rfl⟩:=ints_slice (own_ints h5);clear h5 c5)
     exact⟨⟨_,rfl,k+1,by omega,by go_num,by rw[HE.out];exact HO5.out,HB5.out⟩,by simp[intOf];omega⟩
    ·have hlt':¬(k:Int)<(ls.length:Int):=by omega
     have e:k=ls.length:=by omega
     subst e
     rw[HFE.out]at HOV
     clear hO hB
     go_wp2
     go_ret
     exact⟨_,rfl,HOV.out,HB.out⟩
end Go.Proofs.YtocidankimefpaaGreatDoor.hp
namespace Go.Proofs.YtocidankimefpaaGreatDoor.walks
open Go.RowKit rows heads words
set_option maxRecDepth 100000
set_option maxHeartbeats 4000000 in
theorem implFreeIn (w:World) (v:Value) (xs:List Int) (f:Int) (t:Int) (h:IntsAt w v xs) (hl:xs.length≤1048576) (ha:AllI xs) (hf:I64 f) (ht:I64 t) :
    Calls Tryz.prog 129 #[v,.int .i64 f,.int .i64 t] w fun e w'=>∃v',e = .returned v'∧rows.Own w' w.heap.size v' (freeIn xs f t)∧Below w.heap.size w w':=by
 obtain⟨i0,hi,hz0,hz1,hz2⟩:=info_parts info
 have HI:Hid _:=And.intro hi (And.intro hz0 (And.intro hz1 hz2))
 have WK:=implWalk w v xs f t h hl ha hf ht
 have HM:∀x ∈ walked xs f t,∃j:Nat,x=j∧j<xs.length∧okAt xs j=true∧chunk xs j≠0:=fun x hx=>by
  obtain⟨j,e1,e2,e3,e4⟩:=walked_mem hx
  exact⟨j,e1,e2,by simp only[okAt,Bool.and_eq_true];exact⟨e3,by simp[atOk];omega⟩,e4⟩
 have hLl:(walked xs f t).length≤1048576:=Nat.le_trans (walked_length xs f t).1 (by decide)
 unfold freeIn
 obtain⟨L,hLe⟩:∃L,walked xs f t=L:=⟨_,rfl⟩
 obtain⟨isS,hSe⟩:∃L,walkOk xs f t=L:=⟨_,rfl⟩
 rw[hLe]at HM hLl WK
 rw[hSe]at WK
 rw[hLe]
 have HM:Hid _:=HM
 clear hLe hSe hi hz0 hz1 hz2
 have h':=h
 obtain⟨a,cap,rfl,hlc,hcm,_,_⟩:=h
 have HC:Hid (∀(W:World) (j:Nat),Below w.heap.size w W→okAt xs j=true→Calls Tryz.prog 164 #[.slice a xs.length cap,.int .i64 j] W fun e w'=>e = .returned (chRes a xs j)∧Below W.heap.size W w'):=fun W j hW d=>chunkOf_in (intsAt_below h' hW) hl ha j d
 go_enter Tryz.func129,Tryz.ntmps129
 go_wp2_with fail
 refine WK.mono ?_
 rintro e w1 ⟨vl,rfl,OL,b1⟩
 have s1:=b1.size
 have HOL:Hid _:=own_below OL ((Below.refl w1.heap.size w1).alloc (Nat.le_refl _) (.cells #[] 2))
 have HIL:Hid (rows.In w.heap.size w1.heap.size vl):=own_in OL
 have HOO:Hid _:=own_nothing w1 w.heap.size s1
 have HB1:Hid (Below w.heap.size w (w1.alloc (.cells #[] 2))):=Below.alloc b1 s1 _
 obtain⟨la,lcap,rfl,llc,lcm,_,_⟩:=own_ints OL
 clear WK OL b1
 go_wp2_with fail
 go_loopw [9,24] (fun u i wr=>∃(k:Nat) (u0:Value),u0=u∧k≤L.length∧i = .int .i64 (k:Int)∧rows.Own wr w.heap.size u0 ((L.take k).filter (isFreeAt xs))∧(∀b,u0.ownBlock=some b→w1.heap.size≤b)∧rows.Own wr w.heap.size (.slice la L.length lcap) L∧w1.heap.size≤wr.heap.size∧Below w.heap.size w wr) (fun _ i _=>L.length-(intOf i).toNat)
 case atStart=>exact⟨0,_,rfl,Nat.zero_le _,rfl,HOO.out,fun b e=>by simp[Value.ownBlock]at e;omega,HOL.out,by simp,HB1.out⟩
 case round=>
  obtain⟨k,u0,rfl,hk,rfl,hO,hbk,hL,hws,hB⟩:=hrel
  by_cases hlt:k<L.length
  ·have hlt':(k:Int)<(L.length:Int):=by omega
   obtain⟨la',lcap',e',_,_,_,hcy⟩:=own_ints hL
   injection e' with e1 e2 e3
   subst e1 e3
   obtain⟨lb,loff,rfl,_,hcy⟩:=hcy (by omega)
   have c0:=hcy k hlt
   have HFN:Hid _:=filter_next (p:=isFreeAt xs) hlt
   obtain⟨j,hj,hjl,hjo,hj0⟩:=HM.out (L.getD k 0) (by rw[List.getD_eq_getElem?_getD,List.getElem?_eq_getElem hlt];exact List.getElem_mem hlt)
   have hfr:isFreeAt xs (L.getD k 0)=(uF (xs.getD j 0)==6):=by rw[hj];rfl
   rw[hfr]at HFN
   rw[hj]at c0 HFN
   have CH:=HC.out _ j hB hjo
   unfold chRes at CH
   rw[if_neg hj0]at CH
   unfold piece at CH
   clear hfr hj hcy hj0 hjo
   generalize uF (xs.getD j 0)=f6 at *
   generalize uS (xs.getD j 0)=s at *
   generalize uC (xs.getD j 0)=c1 at *
   generalize uH (xs.getD j 0)=g at *
   generalize uP (xs.getD j 0)=p at *
   generalize uM (xs.getD j 0)=m at *
   generalize (chunk xs j).toNat=N at *
   generalize (if N=0 then a else Option.map (fun x=>x.add j) a)=ad at *
   have HO:Hid _:=hO
   have HL:Hid _:=hL
   have HB:Hid _:=hB
   have HBK:Hid _:=hbk
   have sr:=hB.size
   clear hO hL hB hbk
   go_wp2_with fail
   refine CH.mono ?_
   rintro e w2 ⟨rfl,b2⟩
   have s2:=b2.size
   have b3:Below wr.heap.size wr ((w2.alloc (cb s f6 c1 g p m (.slice ad N N))).alloc (cb s f6 c1 g p m (.slice ad N N))):=(b2.alloc s2 _).alloc (by simp;omega) _
   clear CH b2
   go_wp2_with fail
   refine (isFree_any _ _ _ _ _ _ _ _).mono ?_
   rintro e Y ⟨rfl,hY⟩
   rw[←hY]at b3
   clear hY
   have O2:=own_below HO.out b3
   have L2:=own_below HL.out b3
   have B2:=HB.out.trans (b3.mono sr)
   have c2:=(b3.cell (p:=⟨lb,loff+k,none⟩) (World.block_lt_of_cell? _ _ c0)).trans c0
   have s3:=b3.size
   clear b3 c0
   by_cases h6:f6=6
   ·subst h6
    rw[show ((6:Int)==6)=true from rfl,if_pos rfl]at HFN
    generalize hqs:(L.take k).filter (isFreeAt xs)=qs at *
    have hql:qs.length≤1048576:=by rw[←hqs];exact Nat.le_trans (List.length_filter_le _ _) (by simp;omega)
    clear hqs
    obtain⟨va,vcp,rfl,_,_,_,_⟩:=own_ints O2
    have HOA:Hid (rows.Own (Y.alloc (.cells #[.int .i64 (j:Int)] 2)) w.heap.size (.slice va qs.length vcp) qs):=World.ownsRow.alloc O2 _
    have hba:w.heap.size≤(Y.alloc (.cells #[.int .i64 (j:Int)] 2)).heap.size:=by have:=B2.size;simp;omega
    have HNW:Hid _:=one_int Y (j:Int)
    have HSTEP:Hid (∀(v':Value) (w5:World),w5.ownsRow w.heap.size 2 1 v' (qs.length+1) (cellsOf qs++[.int .i64 (j:Int)])→(Y.alloc (.cells #[.int .i64 (j:Int)] 2)).grownBy w5 (Value.slice va qs.length vcp).ownBlock→(v'.ownBlock=(Value.slice va qs.length vcp).ownBlock∨v'.ownBlock=some (Y.alloc (.cells #[.int .i64 (j:Int)] 2)).heap.size)→(∃a n c,v' = .slice a n c)∧rows.Own w5 w.heap.size v' ((L.take (k+1)).filter (isFreeAt xs))∧(∀b,v'.ownBlock=some b→w1.heap.size≤b)∧rows.Own w5 w.heap.size (.slice (some ⟨lb,loff,none⟩) L.length lcap) L∧w1.heap.size≤w5.heap.size∧Below w.heap.size w w5):=fun v' w5 h1 h2 h3=>by
     obtain⟨on,gr,nb⟩:=app_int h1 h2 h3
     rw[HFN.out]
     obtain⟨a',c',e',_⟩:=own_ints on
     refine⟨⟨_,_,_,e'⟩,on,fun b hb => ?_,?_,Nat.le_trans (Nat.le_trans hws s3) gr.size,below_grown B2 gr (own_lt O2) B2.size⟩
     ·rcases nb b hb with e|e
      ·exact HBK.out b e
      ·omega
     ·refine World.ownsRow.kept L2 gr ?_
      right
      intro e
      have q1:=HIL.out lb rfl
      have q2:=HBK.out lb (by rw[←e];rfl)
      omega
    clear O2 L2 HO HL HBK HB HFN
    go_wp2_with (refine wpList_append_own_at _ rfl (.tmp 36) (.tmp 38) 22 rfl w.heap.size 2 i0 (.int .i64 0) 1 8 Tryz.underlying22 HI.out.1 HI.out.2.1 HI.out.2.2.1 HI.out.2.2.2 rfl (by decide) (.slice va qs.length vcp) qs.length (cellsOf qs) rfl HOA.out ⟨Y.heap.size,0,none⟩ 1 1 [.int .i64 (j:Int)] rfl rfl HNW.out (by simp[Value.oneCell']) (by unfold maxLen;omega) (by omega) hba ?_;intro v' w5 hown hgrow _ hat;obtain⟨⟨va',vn',vc',rfl⟩,st⟩:=HSTEP.out v' w5 hown hgrow hat;have HST:Hid _:=st;clear st hown hgrow hat)
    exact⟨⟨k+1,_,rfl,by omega,by go_num,HST.out⟩,by simp[intOf];omega⟩
   ·have h6':(f6==6)=false:=by simpa using h6
    rw[h6',if_neg (by simp),List.append_nil]at HFN
    have HST:Hid (rows.Own Y w.heap.size u0 ((L.take (k+1)).filter (isFreeAt xs))∧(∀b,u0.ownBlock=some b→w1.heap.size≤b)∧rows.Own Y w.heap.size (.slice (some ⟨lb,loff,none⟩) L.length lcap) L∧w1.heap.size≤Y.heap.size∧Below w.heap.size w Y):=⟨by rw[HFN.out];exact O2,HBK.out,L2,Nat.le_trans hws s3,B2⟩
    clear O2 L2 HO HL HBK HB HFN B2
    go_wp2
    exact⟨⟨k+1,_,rfl,by omega,by go_num,HST.out⟩,by simp[intOf];omega⟩
  ·have e:k=L.length:=by omega
   subst e
   rw[List.take_length]at hO
   have HF:Hid _:=hO
   have HB:Hid _:=hB
   have hlt':¬(L.length:Int)<(L.length:Int):=by omega
   clear hO hB hbk hL
   go_wp2
   go_ret
   exact⟨_,rfl,HF.out,HB.out⟩
theorem infoF:(Tryz.prog.info? 121).map (fun i=>(i.zero,i.size,i.bytes))=some (some (.agg #[.int .i64 0,.int .i64 0]),2,16):=by kernel_rfl
def OwnF (w:World) (base:Nat) (v:Value) (R:List Run):Prop:=w.ownsRow base 121 2 v R.length (cellsF R)
theorem ownF_below {w w':World} {base:Nat} {v:Value} {R:List Run} (h:OwnF w base v R) (hb:Below w.heap.size w w'):OwnF w' base v R:=by
 obtain⟨h0,⟨h1,h2⟩|⟨g,cap,cur,h1,hg,hh,hle,hm,hs,ht⟩⟩:=h
 ·exact⟨h0,.inl ⟨h1,h2⟩⟩
 ·exact⟨h0,.inr ⟨g,cap,cur,h1,hg,(hb.block g (lt_of_block hh)).trans hh,hle,hm,hs,ht⟩⟩
theorem ownF_slice {w:World} {base:Nat} {v:Value} {R:List Run} (h:OwnF w base v R):∃a c,v = .slice a R.length c:=by
 obtain⟨h0,⟨h1,h2⟩|⟨g,cap,cur,h1,_⟩⟩:=h
 ·exact⟨none,0,by rw[h1,h2]⟩
 ·exact⟨_,_,h1⟩
theorem ownF_form {w:World} {base:Nat} {a:Option Addr} {n c:Nat} {R:List Run} (h:OwnF w base (.slice a n c) R) (hp:0<R.length):∃g,a=some ⟨g,0,none⟩∧n=R.length∧base≤g∧g<w.heap.size:=by
 obtain⟨h0,⟨h1,h2⟩|⟨g,cap,cur,h1,hg,hh,_⟩⟩:=h
 ·omega
 ·injection h1 with e1 e2 e3
  exact⟨g,e1,e2,hg,lt_of_block hh⟩
theorem ownF_lt {w:World} {base:Nat} {v:Value} {R:List Run} (h:OwnF w base v R):∀k,v.ownBlock=some k→base≤k∧k<w.heap.size:=World.ownsRow.lt h
theorem ownF_nothing (w:World):OwnF (w.alloc (.cells #[] 121)) w.heap.size (.slice (some ⟨w.heap.size,0,none⟩) 0 0) []:=
 ⟨rfl,.inr ⟨w.heap.size,0,#[],rfl,Nat.le_refl _,heap_alloc_new _ _,Nat.le_refl _,by decide,rfl,rfl⟩⟩
theorem one_run (w:World) (a n:Nat):∀i u,(cellsF [(a,n)])[i]? = some u→(w.alloc (fcb a n)).cell? ((⟨w.heap.size,0,none⟩:Addr).add i)=some u:=World.news_of_block (heap_alloc_new w (fcb a n))
set_option maxHeartbeats 8000000 in
theorem runsOf_any {w:World} {v vl:Value} {xs:List Int} {ps:List Nat} (h:IntsAt w v xs) (hl:xs.length≤1048576) (ha:AllI xs) (hL:IntsAt w vl (ps.map fun p:Nat=>(p:Int))) (hpl:ps.length≤1048576) (hp:∀p ∈ ps,okAt xs p=true∧chunk xs p≠0) :
    Calls Tryz.prog 128 #[v,vl] w fun e w'=>∃v',e = .returned v'∧OwnF w' w.heap.size v' (runsT xs ps ps.length)∧Below w.heap.size w w':=by
 obtain⟨i0,hi,hz0,hz1,hz2⟩:=info_parts infoF
 have HI:Hid _:=And.intro hi (And.intro hz0 (And.intro hz1 hz2))
 have HP:Hid _:=hp
 have h':=h
 obtain⟨a,cap,rfl,hlc,hcm,_,_⟩:=h
 have hL':=hL
 obtain⟨la,lcap,rfl,llc,lcm,_,_⟩:=hL
 have HCH:Hid (∀(W:World) (p:Nat),Below w.heap.size w W→p ∈ ps→Calls Tryz.prog 130 #[.slice a xs.length cap,.int .i64 p] W fun e w'=>e = .returned (.int .i64 ((chunk xs p).toNat:Int))∧Below W.heap.size W w'):=fun W p hW hm=>by
  have:=implChunkAt W _ xs p (intsAt_below h' hW) hl ha ⟨by omega,by have:=(HP.out p hm).1;simp only[okAt,Bool.and_eq_true]at this;have:=atOk_true this.2;omega⟩
  rw[chunkAt_in (HP.out p hm).1,←chunk_nat xs p]at this
  exact this
 have HRI:Hid (∀k,InRow xs (runsT xs ps k)):=runsT_in fun p hm=>(HP.out p hm).2
 have HRL:Hid (∀k,(runsT xs ps k).length≤k):=runsT_length xs ps
 have B0:Below w.heap.size w (w.alloc (.cells #[] 121)):=(Below.refl _ _).alloc (Nat.le_refl _) _
 have HO0:Hid (OwnF (w.alloc (.cells #[] 121)) w.heap.size (.slice (some ⟨w.heap.size,0,none⟩) 0 0) (runsT xs ps 0)):=ownF_nothing w
 have HB0:Hid _:=B0
 have hll:(ps.map fun p:Nat=>(p:Int)).length=ps.length:=by simp
 rw[hll]
 rw[hll]at llc
 clear hi hz0 hz1 hz2 hp B0
 go_enter Tryz.func128,Tryz.ntmps128
 go_wp2_with fail
 go_loopw [5,13] (fun u i wr=>∃(k:Nat) (u0:Value),u0=u∧k≤ps.length∧i = .int .i64 (k:Int)∧OwnF wr w.heap.size u0 (runsT xs ps k)∧Below w.heap.size w wr) (fun _ i _=>ps.length-(intOf i).toNat)
 case atStart=>exact⟨0,_,rfl,Nat.zero_le _,rfl,HO0.out,HB0.out⟩
 case round=>
  obtain⟨k,u0,rfl,hk,rfl,hO,hB⟩:=hrel
  by_cases hlt:k<ps.length
  ·have hlt':(k:Int)<(ps.length:Int):=by omega
   obtain⟨la',lcap',e',_,_,_,hcy⟩:=intsAt_below hL' hB
   injection e' with e1 e2 e3
   subst e1 e3
   obtain⟨lb,loff,rfl,_,hcy⟩:=hcy (by omega)
   have c0:=hcy k (by omega)
   have hpk:ps.getD k 0 ∈ ps:=by rw[List.getD_eq_getElem?_getD,List.getElem?_eq_getElem hlt];exact List.getElem_mem hlt
   rw[show (ps.map fun p:Nat=>(p:Int)).getD k 0=((ps.getD k 0:Nat):Int) by rw[List.getD_eq_getElem?_getD,List.getElem?_map,List.getElem?_eq_getElem hlt,List.getD_eq_getElem?_getD (l:=ps),List.getElem?_eq_getElem hlt];rfl]at c0
   have HNX:Hid _:=runsT_next xs hlt
   have CH:=HCH.out _ _ hB hpk
   have hpb:=chunk_bounds xs (ps.getD k 0)
   have hp0:=(HP.out _ hpk).2
   have hRI:=HRI.out k
   have hRL:=HRL.out k
   generalize ps.getD k 0=p at *
   generalize hR:runsT xs ps k=R at *
   have hcl:(chunk xs p).toNat≤xs.length∧p+(chunk xs p).toNat≤xs.length:=by omega
   obtain⟨c,hc⟩:∃c,(chunk xs p).toNat=c:=⟨_,rfl⟩
   have HC:Hid _:=hc
   rw[hc]at CH hcl
   clear hR hcy e2 hpb hp0 hc
   have HO:Hid _:=hO
   have HB:Hid _:=hB
   have sr:=hB.size
   clear hO hB
   obtain⟨ua,uc,hus⟩:=ownF_slice HO.out
   subst hus
   go_wp2_with fail
   refine CH.mono ?_
   rintro e w2 ⟨rfl,b2⟩
   have O2:=ownF_below HO.out b2
   have B2:=HB.out.trans (b2.mono sr)
   have s2:=b2.size
   clear CH b2 c0 HO HB
   have HAP:Hid (∀(W:World),Below w2.heap.size w2 W→stepR xs R p=R++[(p,c)]→(∀(v':Value) (w5:World),w5.ownsRow w.heap.size 121 2 v' (R.length+1) (cellsF R++cellsF [(p,c)])→(W.alloc (fcb p c)).grownBy w5 (Value.slice ua R.length uc).ownBlock→(v'.ownBlock=(Value.slice ua R.length uc).ownBlock∨v'.ownBlock=some (W.alloc (fcb p c)).heap.size)→(∃a n c,v' = .slice a n c)∧OwnF w5 w.heap.size v' (runsT xs ps (k+1))∧Below w.heap.size w w5)):=fun W hW hst v' w5 h1 h2 h3=>by
    have B3:=B2.trans (hW.mono (Nat.le_trans sr s2))
    have on:OwnF w5 w.heap.size v' (R++[(p,c)]):=by
     unfold OwnF
     rw[cellsF_append,List.length_append]
     exact h1
    have gr:=grown_join (World.grownBy_alloc W (fcb p c) _) h2
    obtain⟨a',c',e'⟩:=ownF_slice on
    refine⟨⟨_,_,_,e'⟩,by rw[HNX.out,hst];exact on,B3.grown gr B3.size (fun j e=>(ownF_lt O2 j e).1)⟩
   have hql:R.length≤1048576:=by omega
   have HAPP:Hid (∀(W:World),Below w2.heap.size w2 W→OwnF (W.alloc (fcb p c)) w.heap.size (.slice ua R.length uc) R∧w.heap.size≤(W.alloc (fcb p c)).heap.size):=fun W hW=>⟨ownF_below O2 (hW.alloc hW.size _),by have:=hW.size;simp;omega⟩
   rcases List.eq_nil_or_concat R with hRn|⟨R',cc,hRc⟩
   ·have hneg:¬(R.length:Int)-1 ≥ 0:=by rw[hRn];decide
    have hst:stepR xs R p=R++[(p,c)]:=by rw[hRn,stepR_none,HC.out];rfl
    obtain⟨q1,q2⟩:=HAPP.out w2 (Below.refl _ _)
    have HOA:Hid _:=q1
    have HNW:Hid _:=one_run w2 p c
    have HST0:Hid _:=HAP.out w2 (Below.refl _ _) hst
    clear q1 hRn hst HAP HAPP hRI
    go_wp2_with (refine wpList_append_own_at _ rfl (.tmp 43) (.tmp 47) 176 rfl w.heap.size 121 i0 (.agg #[.int .i64 0,.int .i64 0]) 2 16 Tryz.underlying176 HI.out.1 HI.out.2.1 HI.out.2.2.1 HI.out.2.2.2 rfl (by decide) (.slice ua R.length uc) R.length (cellsF R) rfl HOA.out ⟨w2.heap.size,0,none⟩ 1 1 (cellsF [(p,c)]) rfl rfl HNW.out (cellsF_one _) (by unfold maxLen;omega) (by omega) q2 ?_;intro v' w5 hown hgrow _ hat;obtain⟨⟨va',vn',vc',rfl⟩,st⟩:=HST0.out v' w5 hown hgrow hat;have HST:Hid _:=st;clear st hown hgrow hat)
    exact⟨⟨k+1,_,rfl,by omega,by go_num,HST.out⟩,by simp[intOf];omega⟩
   ·obtain⟨a0,n0⟩:=cc
    rw[List.concat_eq_append]at hRc
    have hR1:R.length=R'.length+1:=by rw[hRc];simp
    obtain⟨g,rfl,_,hgb,hgl⟩:=ownF_form O2 (by omega)
    have hin:=hRI (a0,n0) (by rw[hRc];simp)
    have cg:=cellsF_get R R'.length (by omega)
    have hgd:R.getD R'.length (0,0)=(a0,n0):=by rw[hRc];simp[List.getD_eq_getElem?_getD]
    rw[hgd]at cg
    have x0:=(World.ownsRow.cellAt O2 (R'.length*2) (by omega)).trans cg.1
    have x1:=(World.ownsRow.cellAt O2 (R'.length*2+1) (by omega)).trans cg.2
    have EN:=end_any a0 n0 (by omega)
    have HR1:Hid _:=hR1
    have HRC:Hid _:=hRc
    have bE:Below w2.heap.size w2 (w2.alloc (fcb a0 n0)):=(Below.refl _ _).alloc (Nat.le_refl _) _
    by_cases he:a0+n0=p
    ·have heq:((a0:Int)+(n0:Int)==(p:Int))=true:=by
       rw[←he];simp
     have HGR:Hid (∀W,W=w2.alloc (fcb a0 n0)→W.cell? ⟨g,R'.length*2+1,none⟩=some (.int .i64 (n0:Int))∧W.frozen? ⟨g,R'.length*2+1,none⟩=false∧OwnF (W.setCell ⟨g,R'.length*2+1,none⟩ (.int .i64 ((n0:Int)+(c:Int)))) w.heap.size (.slice (some ⟨g,0,none⟩) (R'.length+1) uc) (runsT xs ps (k+1))∧Below w.heap.size w (W.setCell ⟨g,R'.length*2+1,none⟩ (.int .i64 ((n0:Int)+(c:Int))))):=fun W hW=>by
      rw[←hW]at bE
      have O3:=ownF_below O2 bE
      have S:=(World.ownsRow.stored O3 (R'.length*2+1) (.int .i64 ((n0:Int)+(c:Int)))).1
      refine⟨(bE.cell (p:=⟨g,R'.length*2+1,none⟩) hgl).trans x1,World.ownsRow.frozenAt O3 _,?_,(B2.trans (bE.mono (Nat.le_trans sr s2))).setCell (p:=⟨g,R'.length*2+1,none⟩) hgb _⟩
      rw[HNX.out,HRC.out,←he,stepR_grow,he,HC.out]
      have e3:(cellsF R).set (R'.length*2+1) (.int .i64 ((n0:Int)+(c:Int)))=cellsF (R'++[(a0,n0+c)]):=by
       rw[HRC.out,←cellsF_grow R' a0 n0 (n0+c)]
       rfl
      rw[e3]at S
      unfold OwnF
      have e4:(R'++[(a0,n0+c)]).length=R'.length+1:=by simp
      rw[e4]
      rw[HR1.out]at S
      exact S
     have hsum:(n0:Int)+(c:Int)≤1048576∧0≤(n0:Int)+(c:Int):=by omega
     clear HAP HAPP O2 B2 bE
     go_wp2_with (go_at_call 124;refine (EN _).mono ?_;clear EN;rintro e w3 ⟨rfl,hw3⟩;obtain⟨y1,y2,y3⟩:=HGR.out w3 hw3;have HST:Hid _:=y3;clear y3 hw3 HGR)
     exact⟨⟨k+1,_,rfl,by omega,by go_num,HST.out⟩,by simp[intOf];omega⟩
    ·have heq:((a0:Int)+(n0:Int)==(p:Int))=false:=by
       simp;omega
     have hst:stepR xs R p=R++[(p,c)]:=by rw[HRC.out,stepR_new xs R' he,HC.out]
     have HOA:Hid (World.ownsRow ((w2.alloc (fcb a0 n0)).alloc (fcb p c)) w.heap.size 121 2 (.slice (some ⟨g,0,none⟩) (R'.length+1) uc) (R'.length+1) (cellsF R)):=by
      have:=(HAPP.out _ bE).1
      unfold OwnF at this
      rw[HR1.out]at this
      exact this
     have q2:=(HAPP.out _ bE).2
     have HNW:Hid _:=one_run (w2.alloc (fcb a0 n0)) p c
     have HST0:Hid _:=HAP.out _ bE hst
     clear hst HAP HAPP O2 B2 bE
     go_wp2_with (first
      |(go_at_call 124;refine (EN _).mono ?_;clear EN;rintro e w3 ⟨rfl,hw3⟩;rw[←hw3]at HOA q2 HNW HST0;clear hw3)
      |(refine wpList_append_own_at _ rfl (.tmp 43) (.tmp 47) 176 rfl w.heap.size 121 i0 (.agg #[.int .i64 0,.int .i64 0]) 2 16 Tryz.underlying176 HI.out.1 HI.out.2.1 HI.out.2.2.1 HI.out.2.2.2 rfl (by decide) (.slice (some ⟨g,0,none⟩) (R'.length+1) uc) (R'.length+1) (cellsF R) rfl HOA.out ⟨w3.heap.size,0,none⟩ 1 1 (cellsF [(p,c)]) rfl rfl HNW.out (cellsF_one _) (by unfold maxLen;omega) (by omega) q2 ?_;intro v' w5 hown hgrow _ hat;rw[←HR1.out]at hown;obtain⟨⟨va',vn',vc',rfl⟩,st⟩:=HST0.out v' w5 hown hgrow hat;have HST:Hid _:=st;clear st hown hgrow hat))
     exact⟨⟨k+1,_,rfl,by omega,by go_num,HST.out⟩,by simp[intOf];omega⟩
  ·have e:k=ps.length:=by omega
   subst e
   have HF:Hid _:=hO
   have HB:Hid _:=hB
   have hlt':¬(ps.length:Int)<(ps.length:Int):=by omega
   clear hO hB
   go_wp2
   go_ret
   exact⟨_,rfl,HF.out,HB.out⟩
end Go.Proofs.YtocidankimefpaaGreatDoor.walks
