/-
  Chapter 13 as the specification has it.
  Made from the template MarkS (mkmarks.py).
-/
import Derived.Test.YtocidankimefpaaGreatDoorM21
import Derived.Test.YtocidankimefpaaGreatDoorM22
import Derived.Test.YtocidankimefpaaGreatDoorM17
import Derived.Deep.RegionLaw
import Derived.Deep.Cut
import Derived.Deep.CutRange
import Derived.Laws.AppendOwnNone
import Derived.Maps.AppendAt
namespace Go.Proofs.YtocidankimefpaaGreatDoor.hp
open Go.RowKit rows heads words walks region
set_option maxRecDepth 100000
set_option linter.unusedVariables false
set_option linter.unusedSimpArgs false
theorem step_appN {ops:Array Oper} {o:Oper} {a:Act} {w:World} {K:Act→World→Prop} {Q:Exit→Act→World→Prop} {E:Prop} (hgd:o.guard=none) (s x:Operand)
    (ho:o.op = .call { callee:=.builtin .append,args:=#[s,x],argTypes:=#[22,22] })
    (base:Nat) (v:Value) (es:List Int) (hs:a.eval s=v) (hown:rows.Own w base v es) (av:Option Addr) (nv cv:Nat) (fs:List Int) (hx:a.eval x = .slice av nv cv) (hR:IntsAt w (.slice av nv cv) fs)
    (hb:es.length+fs.length≤1048576) (hbase:base≤w.heap.size)
    (h:∀va vn vc w',rows.Own w' base (.slice va vn vc) (es++fs)→Ch (blk v) w w'→K (a.put o.dst (.slice va vn vc)) w') :
    if Region.wanted o (yielded ops a.tmps)=true then Oper.wp Tryz.prog o a w K Q else E:=by
 obtain⟨i0,hi,hz0,hz1,hz2⟩:=info_parts info
 have hw:Region.wanted o (yielded ops a.tmps)=true:=by simp[Region.wanted,hgd]
 have h':=hR
 obtain⟨a',c',e',hlc,hcm,hnil,_⟩:=hR
 injection e' with e1 e2 e3
 subst e1 e2 e3
 cases av with
 |none=>
  have hcap:=hnil rfl
  have ef:fs=[]:=List.eq_nil_of_length_eq_zero (by omega)
  subst hcap ef
  rw[if_pos hw]
  have hrun:=run_append_owned_none (P:=Tryz.prog) (w:=w) base 22 o.type 2 i0 1 Tryz.underlying22 hi v es.length (cellsOf es) hown
  obtain⟨va,vn,vc,rfl⟩:=ints_slice (own_ints hown)
  have hk:=h va vn vc w (by rw[List.append_nil];exact hown) (Ch.refl _ _)
  unfold Oper.wp
  simp[execOp,ho,resolve,invoke,builtin,hs,hx,hrun,Result.andThen]
  exact hk
 |some ad=>
  rw[if_pos hw]
  obtain⟨v',w',hr,h2,h3,_,_⟩:=run_append_own_at (P:=Tryz.prog) w base 22 o.type 2 i0 (.int .i64 0) 1 8 Tryz.underlying22 hi hz0 hz1 hz2 rfl (by decide) v es.length (cellsOf es) hown ad fs.length cv (cellsOf fs) (by simp) (ints_news h') (ints_oneCell .i64 fs) (by unfold maxLen;omega) (by omega) hbase
  have O':rows.Own w' base v' (es++fs):=by
   show World.ownsRow _ _ _ _ _ _ _
   rw[List.length_append,show cellsOf (es++fs)=cellsOf es++cellsOf fs by simp[cellsOf]]
   exact h2
  obtain⟨va,vn,vc,rfl⟩:=ints_slice (own_ints O')
  unfold Oper.wp
  simp[execOp,ho,resolve,invoke,builtin,hs,hx,hr,Result.andThen]
  exact h va vn vc w' O' (ch_grown h3)
def slenM:Value→Nat
 | .slice _ n _=>n
 |_=>0
def Sm (H:Hp) (L:List Int):Prop:=Rising L∧∀a ∈ L,Mk H a
theorem Sm.put {H:Hp} {L:List Int} {b:Int} (h:Sm H L) (hb:Mk H b):Sm H (putI b L):=⟨rising_putI h.1,fun a ha=>(mem_putI.1 ha).elim (fun e=>e▸hb) (h.2 a)⟩
def DoneM (H:Hp) (xs:List Int) (p:Int):Prop:=goesM H (fun a=>a ∈ xs) (keepsM H p)∧((∀k,keyM H p=some k→k ∈ xs)→goesM H (fun a=>a ∈ xs) (restM H p))
theorem goes_put {H:Hp} {xs l:List Int} {b:Int} (h:goesM H (fun a=>a ∈ xs) l):goesM H (fun a=>a ∈ putI b xs) l:=fun x hx a ha=>mem_putI.2 (.inr (h x hx a ha))
theorem goes_next {H:Hp} {xs A:List Int} {k:Nat} (hk:k<A.length) (h:goesM H (fun a=>a ∈ xs) (A.take k)) (hx:InM H xs (A.getD k 0)):goesM H (fun a=>a ∈ xs) (A.take (k+1)):=by
 intro x hx' a ha
 rw[List.take_add_one,List.getElem?_eq_getElem hk]at hx'
 rcases List.mem_append.1 hx' with e|e
 ·exact h x e a ha
 ·have e':x=A.getD k 0:=by rw[List.getD_eq_getElem?_getD,List.getElem?_eq_getElem hk];simpa using e
  rw[e']at ha
  exact hx a ha
theorem done_marks {H:Hp} {xs L:List Int} (hL:IsMarks H L) (hs:Sm H xs) (hr:goesM H (fun a=>a ∈ xs) (H.roots++H.mourned)) (hd:∀t,t<xs.length→DoneM H xs (xs.getD t 0)):xs=L:=by
 refine isMarks_eq ⟨hs.1,fun a=>⟨hs.2 a,fun hm=>hm (fun a=>a ∈ xs) ⟨hr,fun p hp => ?_⟩⟩⟩ hL
 obtain⟨t,ht,rfl⟩:=List.getElem_of_mem hp
 have:=hd t ht
 rw[List.getD_eq_getElem?_getD,List.getElem?_eq_getElem ht]at this
 exact this
def FromM (H:Hp) (ys:List Int) (p:Int) (T:List Int) (F:Nat):Prop:=(∀i,F≤i→i<T.length→∀b,tgt H (T.getD i 0)=some b→Mk H b)∧((∀i,F≤i→i<T.length→InM H ys (T.getD i 0))→DoneM H ys p)
theorem drop_at {T:List Int} {F:Nat} {x:Int} (h:x ∈ T.drop F):∃i,F≤i∧i<T.length∧x=T.getD i 0:=by
 obtain⟨i,hi,rfl⟩:=List.getElem_of_mem h
 rw[List.length_drop]at hi
 refine⟨F+i,by omega,by omega,?_⟩
 rw[List.getElem_drop,List.getD_eq_getElem?_getD,List.getElem?_eq_getElem (by omega)]
 rfl
theorem at_drop {T:List Int} {F i:Nat} (h1:F≤i) (h2:i<T.length):T.getD i 0 ∈ T.drop F:=by
 rw[List.getD_eq_getElem?_getD,List.getElem?_eq_getElem h2,List.mem_iff_getElem]
 exact⟨i-F,by rw[List.length_drop];omega,by rw[List.getElem_drop,Option.getD_some];exact getElem_congr_idx (by omega)⟩
theorem from_plain {H:Hp} {ys:List Int} {p:Int} (hp:Mk H p) (hf:fm H p=0):FromM H ys p (slotsOf H p) 0:=by
 have hk:keepsM H p=slotsOf H p:=by unfold keepsM;rw[if_pos hf]
 have hr:restM H p=[]:=by unfold restM;rw[if_neg (by omega)]
 refine⟨fun i h1 h2 b hb=>((mk_closed H).2 p hp).1 _ (by rw[hk];exact List.mem_of_mem_drop (at_drop h1 h2)) b hb,fun h=>⟨fun x hx a ha => ?_,fun _ x hx=>by rw[hr]at hx;cases hx⟩⟩
 rw[hk,←List.drop_zero (l:=slotsOf H p)]at hx
 obtain⟨i,h1,h2,rfl⟩:=drop_at hx
 exact h i h1 h2 a ha
theorem from_weak {H:Hp} {ys:List Int} {p:Int} (hf:fm H p=1) {n:Nat} (hn:(slotsOf H p).length≤n):FromM H ys p (slotsOf H p) n:=by
 have hk:keepsM H p=[]:=by unfold keepsM;rw[if_neg (by omega)]
 have hr:restM H p=[]:=by unfold restM;rw[if_neg (by omega)]
 exact⟨fun i h1 h2=>absurd h2 (by omega),fun _=>⟨fun x hx=>(by rw[hk]at hx;cases hx),fun _ x hx=>(by rw[hr]at hx;cases hx)⟩⟩
theorem from_key {H:Hp} {ys:List Int} {p:Int} (hp:Mk H p) (hf:fm H p=2) (hy:∀a ∈ ys,Mk H a) (hk:∀k,tgt H ((slotsOf H p).getD 0 0)=some k→k ∈ ys):FromM H ys p (slotsOf H p) 1:=by
 have hk0:keepsM H p=[]:=by unfold keepsM;rw[if_neg (by omega)]
 have hr:restM H p=(slotsOf H p).drop 1:=by unfold restM;rw[if_pos hf]
 have hkey:∀k,keyM H p=some k→k ∈ ys:=fun k e=>hk k (by unfold keyM at e;rwa [if_pos hf]at e)
 refine⟨fun i h1 h2 b hb=>((mk_closed H).2 p hp).2 (fun k e=>hy k (hkey k e)) _ (by rw[hr];exact at_drop h1 h2) b hb,fun h=>⟨fun x hx=>(by rw[hk0]at hx;cases hx),fun _ x hx a ha => ?_⟩⟩
 rw[hr]at hx
 obtain⟨i,h1,h2,rfl⟩:=drop_at hx
 exact h i h1 h2 a ha
theorem from_wait {H:Hp} {ys:List Int} {p k:Int} (hf:fm H p=2) (hk:tgt H ((slotsOf H p).getD 0 0)=some k) (hn:k ∉ ys) {n:Nat} (hl:(slotsOf H p).length≤n):FromM H ys p (slotsOf H p) n:=by
 have hk0:keepsM H p=[]:=by unfold keepsM;rw[if_neg (by omega)]
 exact⟨fun i h1 h2=>absurd h2 (by omega),fun _=>⟨fun x hx=>(by rw[hk0]at hx;cases hx),fun h=>absurd (h k (by unfold keyM;rw[if_pos hf];exact hk)) hn⟩⟩
theorem slot_next {H:Hp} {ys us:List Int} {T:List Int} {F i:Nat} (h:us.length=ys.length→us=ys∧∀t,F≤t→t<i→InM H ys (T.getD t 0)) (hx:tgt H (T.getD i 0)=none):us.length=ys.length→us=ys∧∀t,F≤t→t<i+1→InM H ys (T.getD t 0):=fun e=>by
 obtain⟨h1,h2⟩:=h e
 refine⟨h1,fun t ht1 ht2 => ?_⟩
 by_cases hti:t=i
 ·rw[hti];exact fun a ha=>by rw[hx]at ha;cases ha
 ·exact h2 t ht1 (by omega)
theorem slot_put {H:Hp} {ys us:List Int} {T:List Int} {F i:Nat} {b:Int} (hle:ys.length≤us.length) (h:us.length=ys.length→us=ys∧∀t,F≤t→t<i→InM H ys (T.getD t 0)) (hx:tgt H (T.getD i 0)=some b):(putI b us).length=ys.length→putI b us=ys∧∀t,F≤t→t<i+1→InM H ys (T.getD t 0):=fun e=>by
 obtain⟨l1,l2,l3⟩:=len_putI (n:=b) (xs:=us)
 have e1:putI b us=us:=l3 (by omega)
 obtain⟨h1,h2⟩:=h (by omega)
 refine⟨by rw[e1,h1],fun t ht1 ht2 => ?_⟩
 by_cases hti:t=i
 ·rw[hti]
  intro a ha
  rw[hx]at ha
  injection ha with ha
  rw[←h1,←e1,←ha]
  exact mem_putI.2 (.inl rfl)
 ·exact h2 t ht1 (by omega)
theorem obj_next {H:Hp} {xs ys us:List Int} {k F:Nat} {T:List Int} (hlt:k<ys.length) (h1:xs.length≤ys.length) (h2:ys.length≤us.length) (hs:ys.length=xs.length→ys=xs∧∀t,t<k→DoneM H xs (xs.getD t 0)) (hu:us.length=ys.length→us=ys∧∀t,F≤t→t<T.length→InM H ys (T.getD t 0)) (hF:FromM H ys (ys.getD k 0) T F) :
    us.length=xs.length→us=xs∧∀t,t<k+1→DoneM H xs (xs.getD t 0):=fun e=>by
 obtain⟨e1,d1⟩:=hs (by omega)
 obtain⟨e2,d2⟩:=hu (by omega)
 refine⟨e2.trans e1,fun t ht => ?_⟩
 by_cases htk:t=k
 ·rw[htk,←e1];exact hF.2 d2
 ·exact d1 t (by omega)
theorem chunk_fmtS {xs:List Int} {j:Nat} (h:chunk xs j≠0) (h6:uF (xs.getD j 0)≠6) (h7:uF (xs.getD j 0)≠7):(uF (xs.getD j 0)=0∨uF (xs.getD j 0)=1∨uF (xs.getD j 0)=2)∧(uF (xs.getD j 0)=2→1≤uS (xs.getD j 0))∧0≤uS (xs.getD j 0)∧uS (xs.getD j 0)≤20:=by
 unfold chunk at h
 split at h
 ·rename_i h0
  rw[Bool.and_eq_true]at h0
  have h1:=h0.1
  rw[ok_eq,Bool.and_eq_true]at h1
  have hu:uS (xs.getD j 0)=bS (xs.getD j 0)∧uF (xs.getD j 0)=bF (xs.getD j 0):=by
   unfold uS uF
   rw[if_pos h0.1,if_pos h0.1]
   exact⟨rfl,rfl⟩
  rw[hu.2]at h6 h7
  rw[hu.1,hu.2]
  have hh:=h1.2
  have hb:=hok_true hh
  unfold hok at hh
  rw[if_neg h6]at hh
  simp only[Bool.and_eq_true,Bool.or_eq_true,decide_eq_true_eq,beq_iff_eq]at hh
  omega
 ·exact absurd rfl h
set_option maxHeartbeats 64000000 in
theorem l13Marks_any {w:World} {vr vo vm vs:Value} {H:Hp} (h:HpAt w vr vo vm vs H) {ps:List Int} (R:Rt H ps) {L:List Int} (hL:IsMarks H L) :
    Calls Tryz.prog 57 #[hpv H vr vo vm vs] w fun e w'=>∃v',e = .returned v'∧rows.Own w' w.heap.size v' L∧Below w.heap.size w w':=by
 obtain⟨a1,c1,a2,c2,a3,c3,a4,c4,e1,e2,e3,e4⟩:=hpAt_slices h
 subst e1 e2 e3 e4
 have N:=(places_facts R.some').1
 have hro:H.roots.length=6:=N.roots
 have hmo:=N.mourned
 have hrl:H.row.length≤1000:=R.len
 have B0:Below w.heap.size w ((w.alloc (hpb H (.slice a1 H.row.length c1) (.slice a2 H.roots.length c2) (.slice a3 H.mourned.length c3) (.slice a4 H.seen.length c4))).alloc (.cells #[] 2)):=((Below.refl _ _).alloc (Nat.le_refl _) _).alloc (by simp) _
 have HO1:Hid (rows.Own ((w.alloc (hpb H (.slice a1 H.row.length c1) (.slice a2 H.roots.length c2) (.slice a3 H.mourned.length c3) (.slice a4 H.seen.length c4))).alloc (.cells #[] 2)) w.heap.size (.slice (some ⟨w.heap.size+1,0,none⟩) 0 0) []):=own_nothing2 (by simp) (by omega)
 have HT1:Hid (Nine ((w.alloc (hpb H (.slice a1 H.row.length c1) (.slice a2 H.roots.length c2) (.slice a3 H.mourned.length c3) (.slice a4 H.seen.length c4))).alloc (.cells #[] 2)) w.heap.size 26 (.int .i64 H.half) (.int .i64 H.old) (.slice a1 H.row.length c1) (.int .i64 H.side) (.int .i64 H.top) (.slice a2 H.roots.length c2) (.slice a3 H.mourned.length c3) (.slice a4 H.seen.length c4) (.int .i64 H.seed)):=nine_below (nine_new w H _ _ _ _) ((Below.refl _ _).alloc (Nat.le_refl _) _)
 have HB1:Hid _:=B0
 have HH1:Hid _:=hpAt_below h B0
 have HR:Hid _:=R
 have HL:Hid _:=hL
 have HLN:Hid (∀xs,Sm H xs→xs.length≤500):=fun xs hx=>R.marks_len hx.1 hx.2
 have hA46:(H.roots++H.mourned).length≤46:=by rw[List.length_append];omega
 have HRO:Hid _:=hro
 clear B0 h R hL N hro
 go_enter Tryz.func57,Tryz.ntmps57
 go_upto_region 2 with fail
 generalize ((w.alloc (hpb H (.slice a1 H.row.length c1) (.slice a2 H.roots.length c2) (.slice a3 H.mourned.length c3) (.slice a4 H.seen.length c4))).alloc (.cells #[] 2))=X1 at *
 have NL:Below X1.heap.size X1 (X1.alloc (.cells #[] 2)).drew:=((Below.refl _ _).alloc (Nat.le_refl _) _).drew
 obtain⟨⟨z0,z1,z2,z3,z4⟩,⟨z5,z6,z7,z8⟩,_⟩:=nine_cells HT1.out
 obtain⟨⟨y0,y1,y2,y3,y4⟩,⟨y5,y6,y7,y8⟩,_⟩:=nine_cells (nine_below HT1.out ((Below.refl _ X1).alloc (Nat.le_refl _) (.cells #[] 2)))
 have HLIT:Hid (rows.Own (X1.alloc (.cells #[] 2)).drew X1.heap.size (.slice (some ⟨X1.heap.size,0,none⟩) 0 0) []):=own_nothing X1 X1.heap.size (Nat.le_refl _)
 have HRT:Hid _:=intsAt_below HH1.out.2.1 NL
 have HNL:Hid _:=NL
 have hnl:=NL.size
 clear NL
 go_cut [4] from 19 to 25 (fun v wx=>∃avl nv cv,v = .slice avl nv cv∧Hid (IntsAt wx (.slice avl nv cv) (H.roots++H.mourned))∧Hid (Below X1.heap.size X1 wx))
 case first=>
  go_region_law (first
   |(refine step_appN rfl (.tmp 19) (.tmp 21) rfl X1.heap.size _ [] rfl HLIT.out a2 H.roots.length c2 H.roots rfl HRT.out (by have:=HRO.out;simp;omega) hnl ?_
     intro va vn vc w3 hO hc
     have B3:Below X1.heap.size X1 w3:=HNL.out.trans (below_ch hc hnl (fun k hk=>(blk_lt HLIT.out k hk).1))
     have HM3:Hid _:=intsAt_below HH1.out.2.2.1 B3
     obtain⟨⟨x0,x1,x2,x3,x4⟩,⟨x5,x6,x7,x8⟩,_⟩:=nine_cells (nine_below HT1.out B3)
     have HB3:Hid _:=B3
     have HOW3:Hid (rows.Own w3 X1.heap.size (.slice va vn vc) H.roots):=hO
     have hs3:=B3.size
     clear hO hc B3)
   |(refine step_appN rfl (.tmp 22) (.tmp 24) rfl X1.heap.size _ H.roots rfl HOW3.out a3 H.mourned.length c3 H.mourned rfl HM3.out (by have:=HRO.out;omega) hs3 ?_
     intro va4 vn4 vc4 w4 hO4 hc4
     have HR4:Hid _:=own_ints hO4
     have HB4:Hid (Below X1.heap.size X1 w4):=HB3.out.trans (below_ch hc4 hs3 (fun k hk=>(blk_lt HOW3.out k hk).1))
     clear hO4 hc4))
  all_goals go_wp2
  all_goals go_meet
  all_goals exact⟨va4,vn4,vc4,rfl,HR4,HB4⟩
 obtain⟨avl,nv,cv,rfl,HALL,HBX⟩:=hcut
 obtain⟨X2,hX2⟩:∃X2,X2=wc:=⟨_,rfl⟩
 subst hX2
 clear z0 z1 z2 z3 z4 z5 z6 z7 z8 y0 y1 y2 y3 y4 y5 y6 y7 y8 HLIT HRT HNL
 have hnv:nv=(H.roots++H.mourned).length:=by
  obtain⟨_,_,e,_⟩:=HALL.out
  injection e with _ e _
 subst hnv
 have HO2:Hid _:=own_below HO1.out HBX.out
 have HB2:Hid (Below w.heap.size w X2):=HB1.out.trans (HBX.out.mono HB1.out.size)
 have HT2:Hid _:=nine_below HT1.out HBX.out
 have HH2:Hid _:=hpAt_below HH1.out HBX.out
 have sz2:=HB2.out.size
 have HWA:Hid (∀k,k<(H.roots++H.mourned).length→wordIn H ps ((H.roots++H.mourned).getD k 0)=true∧∀b,tgt H ((H.roots++H.mourned).getD k 0)=some b→Mk H b):=fun k hk=>by
  have hm:(H.roots++H.mourned).getD k 0 ∈ H.roots++H.mourned:=by
   rw[List.getD_eq_getElem?_getD,List.getElem?_eq_getElem hk]
   exact List.getElem_mem hk
  exact⟨HR.out.root_in hm,(mk_closed H).1 _ hm⟩
 have HFO:Hid (∀(V:World),Below X2.heap.size X2 V→∀x,wordIn H ps x=true→∀E:Ext V.heap.size V,Calls Tryz.prog 91 #[hpv H (.slice a1 H.row.length c1) (.slice a2 H.roots.length c2) (.slice a3 H.mourned.length c3) (.slice a4 H.seen.length c4),.int .i64 x] E.to fun e w''=>e = .returned (.int .i64 (fol H x))∧∃y:Ext V.heap.size V,w''=y.to):=fun V hV x hx E=>calls_grow (Nat.le_refl _) (l10Follow_any (hpAt_below (hpAt_below HH2.out hV) E.below) HR.out x hx)
 have HSA:Hid (∀(V:World) (z:Int) (E:Ext V.heap.size V),Calls Tryz.prog 87 #[.int .i64 z] E.to fun e w''=>e = .returned (.tuple #[.int .i64 (av z),.bool (isA z)])∧∃y:Ext V.heap.size V,w''=y.to):=fun V z E=>(sAddrOf_any z E.to).mono fun e w' ⟨he,hw⟩=>⟨he,E,hw⟩
 have HNE:Hid (∀(V:World),Below X2.heap.size X2 V→Nine V w.heap.size 26 (.int .i64 H.half) (.int .i64 H.old) (.slice a1 H.row.length c1) (.int .i64 H.side) (.int .i64 H.top) (.slice a2 H.roots.length c2) (.slice a3 H.mourned.length c3) (.slice a4 H.seen.length c4) (.int .i64 H.seed)):=fun V hV=>nine_below HT2.out hV
 clear HO1 HB1 HT1 HBX HH1 HT2 hmo
 generalize hAA:H.roots++H.mourned=A at *
 have HAA:Hid _:=hAA
 clear hAA
 go_wp2_with fail
 go_loopw [3,5,6,7] (fun v p _ _ wr=>∃(k:Nat) (vv:Value) (xs:List Int),vv=v∧k≤A.length∧p = .int .i64 k∧rows.Own wr w.heap.size vv xs∧Sm H xs∧goesM H (fun a=>a ∈ xs) (A.take k)∧Below X2.heap.size X2 wr) (fun _ p _ _ _=>A.length-(intOf p).toNat)
 case atStart=>exact⟨0,_,[],rfl,Nat.zero_le _,rfl,HO2.out,⟨List.Pairwise.nil,fun a ha=>by cases ha⟩,fun x hx=>by simp at hx,Below.refl _ _⟩
 case round=>
  obtain⟨k,vv,xs,rfl,hk,rfl,hO,hgood,hgo,hB⟩:=hrel
  clear HO2
  have HO:Hid _:=hO
  have HGD:Hid _:=hgood
  have HGO:Hid _:=hgo
  have HB:Hid _:=hB
  obtain⟨va,vc,hvv⟩:∃a c,vv = .slice a xs.length c:=by
   obtain⟨a,c,e,_⟩:=own_ints hO
   exact⟨a,c,e⟩
  subst hvv
  have hgl:=HLN.out xs hgood
  by_cases hlt:k<A.length
  ·obtain⟨lb,lo,ea,hlb,x0⟩:=ints_cell (intsAt_below HALL.out hB) hlt
   subst ea
   obtain⟨hwi,hmk⟩:=HWA.out k hlt
   obtain⟨⟨z0,z1,z2,z3,z4⟩,⟨z5,z6,z7,z8⟩⟩:=nine_grow (HNE.out wr hB)
   have Y0:=cell_grow x0
   have HF:Hid _:=HFO.out wr hB _ hwi
   have HS:Hid _:=HSA.out wr
   have hlt':(k:Int)<(A.length:Int):=by omega
   have HNX:Hid (∀ys,goesM H (fun a=>a ∈ ys) (A.take k)→InM H ys (A.getD k 0)→goesM H (fun a=>a ∈ ys) (A.take (k+1))):=fun ys h1 h2=>goes_next hlt h1 h2
   have HMK:Hid _:=hmk
   have HTN:Hid (isA (fol H (A.getD k 0))=false→tgt H (A.getD k 0)=none):=fun e=>by unfold tgt;rw[if_neg (by rw[e];decide)]
   have HTS:Hid (isA (fol H (A.getD k 0))=true→tgt H (A.getD k 0)=some (av (fol H (A.getD k 0)))):=fun e=>by unfold tgt;rw[if_pos e]
   clear hO hgood hgo hB hwi hmk
   generalize A.getD k 0=x at *
   generalize fol H x=z at *
   go_upto_region 6 with fail
   haveI:=ext_any wr
   refine region_grow (n:=wr.heap.size) (by kernel_rfl) (by kernel_rfl) ?_
   repeat (go_big_quiet_step (first|(go_at_call 91;exact HF.out _)|(go_at_call 87;exact HS.out _ _)))
   refine wpQuiet_nil ?_
   intro _ hw'
   obtain⟨E,rfl⟩:=hw'
   have HBx:Hid (Below X2.heap.size X2 E.to):=HB.out.trans (E.below.mono HB.out.size)
   have HOX:Hid _:=own_below HO.out E.below
   clear z0 z1 z2 z3 z4 z5 z6 z7 z8 Y0 HF HS HO HB x0
   generalize E.to=W at *
   clear E this
   cases dA:isA z
   ·have HE:Hid _:=HNX.out xs HGO.out (fun b hb=>by rw[HTN.out dA]at hb;cases hb)
    clear dA HNX HTN HTS HMK
    go_wp2
    exact⟨⟨k+1,_,xs,rfl,by omega,by go_num,HOX.out,HGD.out,HE.out,HBx.out⟩,by simp[intOf];omega⟩
   ·have ht:=HTS.out dA
    have sW:=HBx.out.size
    have PT:=l1Put_any HOX.out (by omega) (by omega) (av z)
    have HE:Hid _:=HNX.out (putI (av z) xs) (goes_put HGO.out) (fun b hb=>by rw[ht]at hb;injection hb with hb;rw[←hb];exact mem_putI.2 (.inl rfl))
    have HGP:Hid _:=Sm.put HGD.out (HMK.out _ ht)
    generalize av z=az at *
    clear dA HNX HTN HTS HMK ht
    go_wp2_with (go_at_call 90;refine PT.mono ?_;clear PT;rintro e w4 ⟨v4,rfl,o4,b4⟩;have HO4:Hid _:=o4;have HB4:Hid _:=HBx.out.trans (b4.mono HBx.out.size);obtain⟨va4,vn4,vc4,rfl⟩:=ints_slice (own_ints o4);clear o4 b4)
    exact⟨⟨k+1,_,_,rfl,by omega,by go_num,HO4.out,HGP.out,HE.out,HB4.out⟩,by simp[intOf];omega⟩
  ·have e:k=A.length:=by omega
   subst e
   rw[List.take_length]at HGO
   have hlt':¬(A.length:Int)<(A.length:Int):=by omega
   clear hO hgood hgo hB
   go_wp2_with fail
   go_loopw [3,8,9,10,11,12,13,14,15,16,17] (fun v _ _ _ _ _ _ _ _ _ _ wr=>∃(vv:Value) (xs:List Int),vv=v∧rows.Own wr w.heap.size vv xs∧Sm H xs∧goesM H (fun a=>a ∈ xs) A∧Below X2.heap.size X2 wr) (fun v _ _ _ _ _ _ _ _ _ _ _=>600-slenM v)
   case atStart=>exact⟨_,xs,rfl,HO.out,HGD.out,HGO.out,HB.out⟩
   case round=>
    clear HO HGD HGO HB hgl
    obtain⟨vv,xs,rfl,hO,hgood,hgo,hB⟩:=hrel
    have hgl:=HLN.out xs hgood
    obtain⟨va,vc,hvv⟩:∃a c,vv = .slice a xs.length c:=by
     obtain⟨a,c,e,_⟩:=own_ints hO
     exact⟨a,c,e⟩
    subst hvv
    have HO:Hid _:=hO
    have HGD:Hid _:=hgood
    have HGO:Hid _:=hgo
    have HB:Hid _:=hB
    clear hO hgood hgo hB
    go_wp2_with fail
    go_loopw [3,9,10,11,12,13,14,15,16,17] (fun v p _ _ _ _ _ _ _ _ wr=>∃(k:Nat) (vv:Value) (ys:List Int),vv=v∧k≤ys.length∧p = .int .i64 k∧rows.Own wr w.heap.size vv ys∧Sm H ys∧goesM H (fun a=>a ∈ ys) A∧xs.length≤ys.length∧(ys.length=xs.length→ys=xs∧∀t,t<k→DoneM H xs (xs.getD t 0))∧Below X2.heap.size X2 wr) (fun _ p _ _ _ _ _ _ _ _ _=>600-(intOf p).toNat)
    case atStart=>exact⟨0,_,xs,rfl,Nat.zero_le _,rfl,HO.out,HGD.out,HGO.out,Nat.le_refl _,fun _=>⟨rfl,fun t ht=>by omega⟩,HB.out⟩
    case round=>
     clear HO HGO HB
     obtain⟨k,vv,ys,rfl,hk,rfl,hO,hgood,hgo,hle,hsame,hB⟩:=hrel
     have hgl2:=HLN.out ys hgood
     obtain⟨va2,vc2,hvv⟩:∃a c,vv = .slice a ys.length c:=by
      obtain⟨a,c,e,_⟩:=own_ints hO
      exact⟨a,c,e⟩
     subst hvv
     have HO:Hid _:=hO
     have HGY:Hid _:=hgood
     have HGO:Hid _:=hgo
     have HSM:Hid _:=hsame
     have HB:Hid _:=hB
     by_cases hlt2:k<ys.length
     ·have hlt2':(k:Int)<(ys.length:Int):=by omega
      obtain⟨lb,lo,ea,hlb,x0⟩:=ints_cell (own_ints hO) hlt2
      subst ea
      have hmk:Mk H (ys.getD k 0):=hgood.2 _ (by rw[List.getD_eq_getElem?_getD,List.getElem?_eq_getElem hlt2];exact List.getElem_mem hlt2)
      obtain⟨hpp,h6,h7⟩:=HR.out.mk_at hmk
      obtain⟨j,hj,hjl,hch⟩:=HR.out.plc _ hpp
      have HJ:Hid _:=hj
      rw[hj]at x0 hmk hpp h6 h7
      unfold fm at h6 h7
      rw[Int.toNat_natCast]at h6 h7
      obtain⟨hf,h2s,hs0,hs20⟩:=chunk_fmtS hch h6 h7
      have qq:=chunk_slots hch
      obtain⟨sn,hsn⟩:∃sn:Nat,uS (H.row.getD j 0)=(sn:Int):=⟨(uS (H.row.getD j 0)).toNat,by omega⟩
      have hso:slotsOf H (j:Int)=(H.row.drop (j+1)).take sn:=by
       unfold slotsOf cnS
       rw[Int.toNat_natCast,if_neg h7,if_neg h6,hsn,Int.toNat_natCast]
      have hjs:j+1+sn≤H.row.length:=by
       have:=qq.2
       unfold cnS at this
       rw[if_neg h7,if_neg h6,hsn]at this
       omega
      have HTL:Hid ((slotsOf H (j:Int)).length=sn):=by show _=_;rw[hso,List.length_take,List.length_drop];omega
      have HTG:Hid (∀i,i<sn→(slotsOf H (j:Int)).getD i 0=H.row.getD (j+1+i) 0):=fun i hi=>by
       rw[hso,List.getD_eq_getElem?_getD,List.getElem?_take,if_pos hi,List.getElem?_drop,←List.getD_eq_getElem?_getD]
      have HTW:Hid (∀i,i<sn→wordIn H ps (H.row.getD (j+1+i) 0)=true):=fun i hi=>by
       rw[←HTG.out i hi]
       refine HR.out.slot_in hpp ?_
       have:=HTL.out
       rw[List.getD_eq_getElem?_getD,List.getElem?_eq_getElem (by omega)]
       exact List.getElem_mem _
      have hfm:fm H (j:Int)=uF (H.row.getD j 0):=by unfold fm;rw[Int.toNat_natCast]
      have HFM:Hid _:=hfm
      have HMK:Hid _:=hmk
      have HFR:Hid (∀F,FromM H ys (j:Int) (slotsOf H (j:Int)) F→∀us,ys.length≤us.length→(us.length=ys.length→us=ys∧∀t,F≤t→t<sn→InM H ys ((slotsOf H (j:Int)).getD t 0))→us.length=xs.length→us=xs∧∀t,t<k+1→DoneM H xs (xs.getD t 0)):=fun F hF us h1 h2=>obj_next hlt2 hle h1 hsame (by rw[HTL.out];exact h2) (by rw[HJ.out];exact hF)
      have h2s':uF (H.row.getD j 0)=2→1≤sn:=fun e=>by have:=h2s e;omega
      have HL4:Hid (∀W,Below wr.heap.size wr W→Calls Tryz.prog 45 #[(.slice a1 H.row.length c1),.int .i64 (j:Int)] W fun e w'=>e = .returned (hv (sn:Int) (uF (H.row.getD j 0)) (uC (H.row.getD j 0)) (uH (H.row.getD j 0)) (uP (H.row.getD j 0)) (uM (H.row.getD j 0)))∧Below W.heap.size W w'):=fun W hW=>by
       have:=l4Head_any (intsAt_below (hpAt_below HH2.out hB).1 hW) j hjl
       unfold hw at this
       rw[hsn]at this
       exact this
      have BA:=(Below.refl wr.heap.size wr).alloc (Nat.le_refl _) (hb 0 0 0 0 false false)
      obtain⟨⟨z0,z1,z2,z3,z4⟩,⟨z5,z6,z7,z8⟩,_⟩:=nine_cells (HNE.out wr hB)
      have z2':=(BA.cell (p:=⟨w.heap.size,2,none⟩) (World.block_lt_of_cell? _ _ z2)).trans z2
      have x0':=(BA.cell (p:=⟨lb,lo+k,none⟩) hlb).trans x0
      have HA:Hid (∀W,Below (wr.alloc (hb 0 0 0 0 false false)).heap.size (wr.alloc (hb 0 0 0 0 false false)) W→HeadAt W wr.heap.size 0 0 0 0 false false):=fun W hW=>headAt_below (headAt_new wr 0 0 0 0 false false) hW
      have HBA:Hid _:=BA
      have HSN:Hid _:=h2s'
      clear hO hgood hgo hsame hB hmk hpp h6 h7 hj hch h2s hs0 qq hsn hso hfm h2s' BA
      generalize uF (H.row.getD j 0)=f at *
      generalize uC (H.row.getD j 0)=c at *
      generalize uH (H.row.getD j 0)=g at *
      generalize uP (H.row.getD j 0)=p at *
      generalize uM (H.row.getD j 0)=m at *
      have hsn20:sn≤1000:=by omega
      clear hs20
      go_upto_region 13 with fail
      go_cut [9,10] from 48 to 121 (fun i q wy=>i = .int .i64 (k:Int)∧∃B,q = .pointer (some ⟨B,0,none⟩)∧HeadAt wy B (sn:Int) f c g p m∧Below wr.heap.size wr wy)
      case first=>
       go_region_law (first
        |(go_simp;go_at_call 45;refine (HL4.out _ HBA.out.drew).mono ?_;clear HL4;rintro e w6 ⟨rfl,b6⟩;have b7:Below (wr.alloc (hb 0 0 0 0 false false)).heap.size (wr.alloc (hb 0 0 0 0 false false)) w6:=⟨b6.os,b6.tape,b6.output,b6.size,b6.block⟩;have TA:=HA.out w6 b7;obtain⟨t0',t1',t2',t3',t4',t5',tf⟩:=headAt_cells TA;have f0:=tf 0;have f1:=tf 1;have f2:=tf 2;have f3:=tf 3;have f4:=tf 4;have f5:=tf 5;have HEnd:Hid _:=And.intro (six_set TA (sn:Int) f c g p m) (six_below (HBA.out.trans (b7.mono HBA.out.size)) (Nat.le_refl wr.heap.size) (sn:Int) f c g p m);clear b6 b7 TA tf)
        |(go_simp;go_at_call 45;refine (HL4.out _ (Below.refl _ _).drew).mono ?_;clear HL4;rintro e w6 ⟨rfl,b6⟩;have b7:Below wr.heap.size wr w6:=⟨b6.os,b6.tape,b6.output,b6.size,b6.block⟩;have HEnd:Hid _:=And.intro (headAt_new w6 (sn:Int) f c g p m) (b7.alloc b7.size (hb (sn:Int) f c g p m));clear b6 b7))
       all_goals (go_wp2_with fail)
       all_goals go_meet
       all_goals exact⟨rfl,_,rfl,HEnd.out.1,HEnd.out.2⟩
      obtain⟨rfl,B,rfl,hHd,hBy⟩:=hcut
      have HHd:Hid _:=hHd
      have HB7:Hid (Below X2.heap.size X2 wc):=HB.out.trans (hBy.mono HB.out.size)
      have HO7:Hid _:=own_below HO.out hBy
      have x1:wc.cell? ⟨lb,lo+k,none⟩=some (.int .i64 (j:Int)):=(hBy.cell (p:=⟨lb,lo+k,none⟩) hlb).trans x0
      obtain⟨t0,t1,t2,t3,t4,t5,_⟩:=headAt_cells hHd
      clear z0 z1 z2 z3 z4 z5 z6 z7 z8 z2' x0 x0' HL4 HA HBA hHd hBy HB HO
      obtain⟨T,hTT⟩:∃T,slotsOf H (j:Int)=T:=⟨_,rfl⟩
      rw[hTT]at HTL
      simp only[hTT]at HTG HFR
      have HTE:Hid _:=hTT
      clear hTT
      rcases hf with hf|hf|hf
      ·subst hf
       have HFF:Hid (FromM H ys (j:Int) T 0):=by have:=from_plain (ys:=ys) HMK.out HFM.out;rwa [HTE.out]at this
       have hFsn:0≤sn:=Nat.zero_le _
       have HOW:Hid _:=HO7.out
       have HHW:Hid _:=HHd.out
       have HBW:Hid _:=HB7.out
       clear HO7 HHd HB7 HSN
       go_wp2_with fail
       go_loopw [3,15,16,17] (fun o q _ _ wz=>∃(i:Nat) (v:Value) (us:List Int),v=o∧0≤i∧i≤sn∧q = .int .i64 (i:Int)∧rows.Own wz w.heap.size v us∧Sm H us∧goesM H (fun a=>a ∈ us) A∧ys.length≤us.length∧(us.length=ys.length→us=ys∧∀t,0≤t→t<i→InM H ys (T.getD t 0))∧Below wc.heap.size wc wz) (fun _ q _ _ _=>sn-(intOf q).toNat)
       case atStart=>exact⟨0,_,ys,rfl,Nat.le_refl _,hFsn,by first|rfl|simp,HOW.out,HGY.out,HGO.out,Nat.le_refl _,fun _=>⟨rfl,fun t h1 h2=>absurd h2 (by omega)⟩,Below.refl _ _⟩
       case round=>
        obtain⟨i,v,us,rfl,hFi,hi,rfl,hO,hgood,hgo,hle2,hsm2,hB⟩:=hrel
        have hgl3:=HLN.out us hgood
        obtain⟨va3,vc3,hvv⟩:∃a c,v = .slice a us.length c:=by
         obtain⟨a,c,e,_⟩:=own_ints hO
         exact⟨a,c,e⟩
        subst hvv
        obtain⟨t0,t1,t2,t3,t4,t5,_⟩:=headAt_cells (headAt_below HHW.out hB)
        have HO3:Hid _:=hO
        have HG3:Hid _:=hgood
        have HGO3:Hid _:=hgo
        have HSM3:Hid _:=hsm2
        have HBW3:Hid _:=hB
        have HB3:Hid (Below X2.heap.size X2 wr):=HBW.out.trans (hB.mono HBW.out.size)
        by_cases hil:i<sn
        ·have hil':(i:Int)<(sn:Int):=by omega
         have hwi:=HTW.out i hil
         have htg:=HTG.out i hil
         obtain⟨rb,ro,erb,hrb,y0⟩:=ints_cell (hpAt_below HH2.out HB3.out).1 (k:=j+1+i) (by omega)
         subst erb
         obtain⟨⟨z0,z1,z2,z3,z4⟩,⟨z5,z6,z7,z8⟩⟩:=nine_grow (HNE.out wr HB3.out)
         have Y0:=cell_grow y0
         have HF3:Hid _:=HFO.out wr HB3.out _ hwi
         have HS3:Hid _:=HSA.out wr
         have HMK3:Hid (∀b,tgt H (H.row.getD (j+1+i) 0)=some b→Mk H b):=fun b hb=>HFF.out.1 i hFi (by rw[HTL.out];exact hil) b (by rw[htg];exact hb)
         have HNN:Hid (isA (fol H (H.row.getD (j+1+i) 0))=false→us.length=ys.length→us=ys∧∀t,0≤t→t<i+1→InM H ys (T.getD t 0)):=fun e=>slot_next hsm2 (by rw[htg];unfold tgt;rw[if_neg (by rw[e];decide)])
         have HNP:Hid (isA (fol H (H.row.getD (j+1+i) 0))=true→(putI (av (fol H (H.row.getD (j+1+i) 0))) us).length=ys.length→putI (av (fol H (H.row.getD (j+1+i) 0))) us=ys∧∀t,0≤t→t<i+1→InM H ys (T.getD t 0)):=fun e=>slot_put hle2 hsm2 (by rw[htg];unfold tgt;rw[if_pos e])
         have HMP:Hid (isA (fol H (H.row.getD (j+1+i) 0))=true→Mk H (av (fol H (H.row.getD (j+1+i) 0)))):=fun e=>HMK3.out _ (by unfold tgt;rw[if_pos e])
         have i1:((j:Int)+1+(i:Int)).toNat=j+1+i:=by omega
         have i2:(0:Int)≤(j:Int)+1+(i:Int):=by omega
         have i3:(j:Int)+1+(i:Int)<(H.row.length:Int):=by omega
         have hjl1:j<1000:=by omega
         clear hO hgood hgo hsm2 hB hwi htg HMK3 y0
         generalize H.row.getD (j+1+i) 0=x at *
         generalize fol H x=z at *
         go_upto_region 27 with fail
         haveI:=ext_any wr
         refine region_grow (n:=wr.heap.size) (by kernel_rfl) (by kernel_rfl) ?_
         repeat (go_big_quiet_step (first|(go_at_call 91;exact HF3.out _)|(go_at_call 87;exact HS3.out _ _)))
         refine wpQuiet_nil ?_
         intro _ hw'
         obtain⟨E,rfl⟩:=hw'
         have HBx:Hid (Below wc.heap.size wc E.to):=HBW3.out.trans (E.below.mono HBW3.out.size)
         have HBx2:Hid (Below X2.heap.size X2 E.to):=HB3.out.trans (E.below.mono HB3.out.size)
         have HOX:Hid _:=own_below HO3.out E.below
         clear z0 z1 z2 z3 z4 z5 z6 z7 z8 Y0 HF3 HS3 HO3 HB3 HBW3 t0 t1 t2 t3 t4 t5
         generalize E.to=W9 at *
         clear E this
         cases dA:isA z
         ·have HE:Hid _:=HNN.out dA
          clear dA HNN HNP HMP
          go_wp2
          exact⟨⟨i+1,_,us,rfl,by omega,by omega,by go_num,HOX.out,HG3.out,HGO3.out,hle2,HE.out,HBx.out⟩,by simp[intOf];omega⟩
         ·have sW:=HBx2.out.size
          have PT:=l1Put_any HOX.out (by omega) (by omega) (av z)
          have HE:Hid _:=HNP.out dA
          have HGP:Hid _:=Sm.put HG3.out (HMP.out dA)
          have HGQ:Hid _:=goes_put (b:=av z) HGO3.out
          have hle3:ys.length≤(putI (av z) us).length:=Nat.le_trans hle2 len_putI.1
          generalize av z=az at *
          clear dA HNN HNP HMP
          go_wp2_with (go_at_call 90;refine PT.mono ?_;clear PT;rintro e w4 ⟨v4,rfl,o4,b4⟩;have HO4:Hid _:=o4;have HB4:Hid _:=HBx.out.trans (b4.mono HBx.out.size);obtain⟨va4,vn4,vc4,rfl⟩:=ints_slice (own_ints o4);clear o4 b4)
          exact⟨⟨i+1,_,_,rfl,by omega,by omega,by go_num,HO4.out,HGP.out,HGQ.out,hle3,HE.out,HB4.out⟩,by simp[intOf];omega⟩
        ·have hil':¬(i:Int)<(sn:Int):=by omega
         have ei:i=sn:=by omega
         have HE:Hid _:=HFR.out 0 HFF.out us hle2 (by rw[ei]at hsm2;exact hsm2)
         clear hO hgood hgo hsm2 hB ei
         go_wp2
         exact⟨⟨k+1,_,us,rfl,by omega,by go_num,HO3.out,HG3.out,HGO3.out,by omega,HE.out,HB3.out⟩,by simp[intOf];omega⟩
      ·subst hf
       have HFF:Hid (FromM H ys (j:Int) T sn):=by have:=from_weak (ys:=ys) HFM.out (n:=sn) (by rw[HTE.out,HTL.out];exact Nat.le_refl _);rwa [HTE.out]at this
       have hFsn:sn≤sn:=Nat.le_refl _
       have HOW:Hid _:=HO7.out
       have HHW:Hid _:=HHd.out
       have HBW:Hid _:=HB7.out
       clear HO7 HHd HB7 HSN
       go_wp2_with fail
       go_loopw [3,15,16,17] (fun o q _ _ wz=>∃(i:Nat) (v:Value) (us:List Int),v=o∧sn≤i∧i≤sn∧q = .int .i64 (i:Int)∧rows.Own wz w.heap.size v us∧Sm H us∧goesM H (fun a=>a ∈ us) A∧ys.length≤us.length∧(us.length=ys.length→us=ys∧∀t,sn≤t→t<i→InM H ys (T.getD t 0))∧Below wc.heap.size wc wz) (fun _ q _ _ _=>sn-(intOf q).toNat)
       case atStart=>exact⟨sn,_,ys,rfl,Nat.le_refl _,hFsn,by first|rfl|simp,HOW.out,HGY.out,HGO.out,Nat.le_refl _,fun _=>⟨rfl,fun t h1 h2=>absurd h2 (by omega)⟩,Below.refl _ _⟩
       case round=>
        obtain⟨i,v,us,rfl,hFi,hi,rfl,hO,hgood,hgo,hle2,hsm2,hB⟩:=hrel
        have hgl3:=HLN.out us hgood
        obtain⟨va3,vc3,hvv⟩:∃a c,v = .slice a us.length c:=by
         obtain⟨a,c,e,_⟩:=own_ints hO
         exact⟨a,c,e⟩
        subst hvv
        obtain⟨t0,t1,t2,t3,t4,t5,_⟩:=headAt_cells (headAt_below HHW.out hB)
        have HO3:Hid _:=hO
        have HG3:Hid _:=hgood
        have HGO3:Hid _:=hgo
        have HSM3:Hid _:=hsm2
        have HBW3:Hid _:=hB
        have HB3:Hid (Below X2.heap.size X2 wr):=HBW.out.trans (hB.mono HBW.out.size)
        by_cases hil:i<sn
        ·exact absurd hil (by omega)
        ·have hil':¬(i:Int)<(sn:Int):=by omega
         have ei:i=sn:=by omega
         have HE:Hid _:=HFR.out sn HFF.out us hle2 (by rw[ei]at hsm2;exact hsm2)
         clear hO hgood hgo hsm2 hB ei
         go_wp2
         exact⟨⟨k+1,_,us,rfl,by omega,by go_num,HO3.out,HG3.out,HGO3.out,by omega,HE.out,HB3.out⟩,by simp[intOf];omega⟩
      ·subst hf
       have hsn1:=HSN.out rfl
       have hwi:=HTW.out 0 (by omega)
       have htg:=HTG.out 0 (by omega)
       obtain⟨rb,ro,erb,hrb,y0⟩:=ints_cell (hpAt_below HH2.out HB7.out).1 (k:=j+1) (by omega)
       subst erb
       rw[Nat.add_zero]at hwi htg
       obtain⟨⟨z0,z1,z2,z3,z4⟩,⟨z5,z6,z7,z8⟩⟩:=nine_grow (HNE.out wc HB7.out)
       have Y0:=cell_grow y0
       have Y1:=cell_grow x1
       have HF3:Hid _:=HFO.out wc HB7.out _ hwi
       have HS3:Hid _:=HSA.out wc
       have HK0:Hid (isA (fol H (H.row.getD (j+1) 0))=false→FromM H ys (j:Int) T 1):=fun e=>by
        have:=from_key (ys:=ys) HMK.out HFM.out HGY.out.2 (fun k hk=>by rw[HTE.out,htg]at hk;unfold tgt at hk;rw[if_neg (by rw[e];decide)]at hk;cases hk)
        rwa [HTE.out]at this
       have HK1:Hid (isA (fol H (H.row.getD (j+1) 0))=true→av (fol H (H.row.getD (j+1) 0)) ∈ ys→FromM H ys (j:Int) T 1):=fun e hy=>by
        have:=from_key (ys:=ys) HMK.out HFM.out HGY.out.2 (fun k hk=>by rw[HTE.out,htg]at hk;unfold tgt at hk;rw[if_pos e]at hk;injection hk with hk;rw[←hk];exact hy)
        rwa [HTE.out]at this
       have HK2:Hid (isA (fol H (H.row.getD (j+1) 0))=true→av (fol H (H.row.getD (j+1) 0)) ∉ ys→FromM H ys (j:Int) T sn):=fun e hy=>by
        have:=from_wait (ys:=ys) (k:=av (fol H (H.row.getD (j+1) 0))) HFM.out (by rw[HTE.out,htg];unfold tgt;rw[if_pos e]) hy (n:=sn) (by rw[HTE.out,HTL.out];exact Nat.le_refl _)
        rwa [HTE.out]at this
       have i1:((j:Int)+1).toNat=j+1:=by omega
       have i2:(0:Int)≤(j:Int)+1:=by omega
       have i3:(j:Int)+1<(H.row.length:Int):=by omega
       have hjl1:j<1000:=by omega
       clear hwi htg y0 HSN
       generalize H.row.getD (j+1) 0=x at *
       generalize fol H x=z at *
       go_upto_region 20 with fail
       haveI:=ext_any wc
       refine region_grow (n:=wc.heap.size) (by kernel_rfl) (by kernel_rfl) ?_
       repeat (go_big_quiet_step (first|(go_at_call 91;exact HF3.out _)|(go_at_call 87;exact HS3.out _ _)))
       refine wpQuiet_nil ?_
       intro _ hw'
       obtain⟨E,rfl⟩:=hw'
       have HBW:Hid (Below X2.heap.size X2 E.to):=HB7.out.trans (E.below.mono HB7.out.size)
       have HOW:Hid _:=own_below HO7.out E.below
       have HHW:Hid _:=headAt_below HHd.out E.below
       have y1:=Y1 E
       clear z0 z1 z2 z3 z4 z5 z6 z7 z8 Y0 Y1 HF3 HS3 t0 t1 t2 t3 t4 t5 HO7 HHd HB7 x1
       generalize E.to=W8 at *
       clear E this
       obtain⟨t0,t1,t2,t3,t4,t5,_⟩:=headAt_cells HHW.out
       cases dA:isA z
       ·have HFF:Hid _:=HK0.out dA
        have hFsn:=hsn1
        clear dA HK0 HK1 HK2
        go_wp2_with fail
        go_loopw [3,15,16,17] (fun o q _ _ wz=>∃(i:Nat) (v:Value) (us:List Int),v=o∧1≤i∧i≤sn∧q = .int .i64 (i:Int)∧rows.Own wz w.heap.size v us∧Sm H us∧goesM H (fun a=>a ∈ us) A∧ys.length≤us.length∧(us.length=ys.length→us=ys∧∀t,1≤t→t<i→InM H ys (T.getD t 0))∧Below W8.heap.size W8 wz) (fun _ q _ _ _=>sn-(intOf q).toNat)
        case atStart=>exact⟨1,_,ys,rfl,Nat.le_refl _,hFsn,by first|rfl|simp,HOW.out,HGY.out,HGO.out,Nat.le_refl _,fun _=>⟨rfl,fun t h1 h2=>absurd h2 (by omega)⟩,Below.refl _ _⟩
        case round=>
         obtain⟨i,v,us,rfl,hFi,hi,rfl,hO,hgood,hgo,hle2,hsm2,hB⟩:=hrel
         have hgl3:=HLN.out us hgood
         obtain⟨va3,vc3,hvv⟩:∃a c,v = .slice a us.length c:=by
          obtain⟨a,c,e,_⟩:=own_ints hO
          exact⟨a,c,e⟩
         subst hvv
         obtain⟨t0,t1,t2,t3,t4,t5,_⟩:=headAt_cells (headAt_below HHW.out hB)
         have HO3:Hid _:=hO
         have HG3:Hid _:=hgood
         have HGO3:Hid _:=hgo
         have HSM3:Hid _:=hsm2
         have HBW3:Hid _:=hB
         have HB3:Hid (Below X2.heap.size X2 wr):=HBW.out.trans (hB.mono HBW.out.size)
         by_cases hil:i<sn
         ·have hil':(i:Int)<(sn:Int):=by omega
          have hwi:=HTW.out i hil
          have htg:=HTG.out i hil
          obtain⟨rb2,ro2,erb,hrb2,y0⟩:=ints_cell (hpAt_below HH2.out HB3.out).1 (k:=j+1+i) (by omega)
          obtain⟨e5,e6⟩:rb2=rb∧ro2=ro:=by injection erb with e;injection e with e1 e2 _;exact⟨e1.symm,e2.symm⟩
          subst e5 e6
          obtain⟨⟨z0,z1,z2,z3,z4⟩,⟨z5,z6,z7,z8⟩⟩:=nine_grow (HNE.out wr HB3.out)
          have Y0:=cell_grow y0
          have HF3:Hid _:=HFO.out wr HB3.out _ hwi
          have HS3:Hid _:=HSA.out wr
          have HMK3:Hid (∀b,tgt H (H.row.getD (j+1+i) 0)=some b→Mk H b):=fun b hb=>HFF.out.1 i hFi (by rw[HTL.out];exact hil) b (by rw[htg];exact hb)
          have HNN:Hid (isA (fol H (H.row.getD (j+1+i) 0))=false→us.length=ys.length→us=ys∧∀t,1≤t→t<i+1→InM H ys (T.getD t 0)):=fun e=>slot_next hsm2 (by rw[htg];unfold tgt;rw[if_neg (by rw[e];decide)])
          have HNP:Hid (isA (fol H (H.row.getD (j+1+i) 0))=true→(putI (av (fol H (H.row.getD (j+1+i) 0))) us).length=ys.length→putI (av (fol H (H.row.getD (j+1+i) 0))) us=ys∧∀t,1≤t→t<i+1→InM H ys (T.getD t 0)):=fun e=>slot_put hle2 hsm2 (by rw[htg];unfold tgt;rw[if_pos e])
          have HMP:Hid (isA (fol H (H.row.getD (j+1+i) 0))=true→Mk H (av (fol H (H.row.getD (j+1+i) 0)))):=fun e=>HMK3.out _ (by unfold tgt;rw[if_pos e])
          have i1:((j:Int)+1+(i:Int)).toNat=j+1+i:=by omega
          have i2:(0:Int)≤(j:Int)+1+(i:Int):=by omega
          have i3:(j:Int)+1+(i:Int)<(H.row.length:Int):=by omega
          have hjl1:j<1000:=by omega
          clear hO hgood hgo hsm2 hB hwi htg HMK3 y0
          generalize H.row.getD (j+1+i) 0=x at *
          generalize fol H x=z at *
          go_upto_region 27 with fail
          haveI:=ext_any wr
          refine region_grow (n:=wr.heap.size) (by kernel_rfl) (by kernel_rfl) ?_
          repeat (go_big_quiet_step (first|(go_at_call 91;exact HF3.out _)|(go_at_call 87;exact HS3.out _ _)))
          refine wpQuiet_nil ?_
          intro _ hw'
          obtain⟨E,rfl⟩:=hw'
          have HBx:Hid (Below W8.heap.size W8 E.to):=HBW3.out.trans (E.below.mono HBW3.out.size)
          have HBx2:Hid (Below X2.heap.size X2 E.to):=HB3.out.trans (E.below.mono HB3.out.size)
          have HOX:Hid _:=own_below HO3.out E.below
          clear z0 z1 z2 z3 z4 z5 z6 z7 z8 Y0 HF3 HS3 HO3 HB3 HBW3 t0 t1 t2 t3 t4 t5
          generalize E.to=W9 at *
          clear E this
          cases dA:isA z
          ·have HE:Hid _:=HNN.out dA
           clear dA HNN HNP HMP
           go_wp2
           exact⟨⟨i+1,_,us,rfl,by omega,by omega,by go_num,HOX.out,HG3.out,HGO3.out,hle2,HE.out,HBx.out⟩,by simp[intOf];omega⟩
          ·have sW:=HBx2.out.size
           have PT:=l1Put_any HOX.out (by omega) (by omega) (av z)
           have HE:Hid _:=HNP.out dA
           have HGP:Hid _:=Sm.put HG3.out (HMP.out dA)
           have HGQ:Hid _:=goes_put (b:=av z) HGO3.out
           have hle3:ys.length≤(putI (av z) us).length:=Nat.le_trans hle2 len_putI.1
           generalize av z=az at *
           clear dA HNN HNP HMP
           go_wp2_with (go_at_call 90;refine PT.mono ?_;clear PT;rintro e w4 ⟨v4,rfl,o4,b4⟩;have HO4:Hid _:=o4;have HB4:Hid _:=HBx.out.trans (b4.mono HBx.out.size);obtain⟨va4,vn4,vc4,rfl⟩:=ints_slice (own_ints o4);clear o4 b4)
           exact⟨⟨i+1,_,_,rfl,by omega,by omega,by go_num,HO4.out,HGP.out,HGQ.out,hle3,HE.out,HB4.out⟩,by simp[intOf];omega⟩
         ·have hil':¬(i:Int)<(sn:Int):=by omega
          have ei:i=sn:=by omega
          have HE:Hid _:=HFR.out 1 HFF.out us hle2 (by rw[ei]at hsm2;exact hsm2)
          clear hO hgood hgo hsm2 hB ei
          go_wp2
          exact⟨⟨k+1,_,us,rfl,by omega,by go_num,HO3.out,HG3.out,HGO3.out,by omega,HE.out,HB3.out⟩,by simp[intOf];omega⟩
       ·have HS:=l1Has_any (own_ints HOW.out) (by omega) (av z)
        by_cases hin:av z ∈ ys
        ·have HFF:Hid _:=HK1.out dA hin
         have hFsn:=hsn1
         rw[decide_eq_true hin]at HS
         generalize av z=az at *
         clear dA HK0 HK1 HK2 hin
         go_wp2_with (go_at_call 61;refine HS.mono ?_;clear HS;rintro e w4 ⟨rfl,hw4⟩;rw[hw4];clear hw4 w4)
         go_loopw [3,15,16,17] (fun o q _ _ wz=>∃(i:Nat) (v:Value) (us:List Int),v=o∧1≤i∧i≤sn∧q = .int .i64 (i:Int)∧rows.Own wz w.heap.size v us∧Sm H us∧goesM H (fun a=>a ∈ us) A∧ys.length≤us.length∧(us.length=ys.length→us=ys∧∀t,1≤t→t<i→InM H ys (T.getD t 0))∧Below W8.heap.size W8 wz) (fun _ q _ _ _=>sn-(intOf q).toNat)
         case atStart=>exact⟨1,_,ys,rfl,Nat.le_refl _,hFsn,by first|rfl|simp,HOW.out,HGY.out,HGO.out,Nat.le_refl _,fun _=>⟨rfl,fun t h1 h2=>absurd h2 (by omega)⟩,Below.refl _ _⟩
         case round=>
          obtain⟨i,v,us,rfl,hFi,hi,rfl,hO,hgood,hgo,hle2,hsm2,hB⟩:=hrel
          have hgl3:=HLN.out us hgood
          obtain⟨va3,vc3,hvv⟩:∃a c,v = .slice a us.length c:=by
           obtain⟨a,c,e,_⟩:=own_ints hO
           exact⟨a,c,e⟩
          subst hvv
          obtain⟨t0,t1,t2,t3,t4,t5,_⟩:=headAt_cells (headAt_below HHW.out hB)
          have HO3:Hid _:=hO
          have HG3:Hid _:=hgood
          have HGO3:Hid _:=hgo
          have HSM3:Hid _:=hsm2
          have HBW3:Hid _:=hB
          have HB3:Hid (Below X2.heap.size X2 wr):=HBW.out.trans (hB.mono HBW.out.size)
          by_cases hil:i<sn
          ·have hil':(i:Int)<(sn:Int):=by omega
           have hwi:=HTW.out i hil
           have htg:=HTG.out i hil
           obtain⟨rb2,ro2,erb,hrb2,y0⟩:=ints_cell (hpAt_below HH2.out HB3.out).1 (k:=j+1+i) (by omega)
           obtain⟨e5,e6⟩:rb2=rb∧ro2=ro:=by injection erb with e;injection e with e1 e2 _;exact⟨e1.symm,e2.symm⟩
           subst e5 e6
           obtain⟨⟨z0,z1,z2,z3,z4⟩,⟨z5,z6,z7,z8⟩⟩:=nine_grow (HNE.out wr HB3.out)
           have Y0:=cell_grow y0
           have HF3:Hid _:=HFO.out wr HB3.out _ hwi
           have HS3:Hid _:=HSA.out wr
           have HMK3:Hid (∀b,tgt H (H.row.getD (j+1+i) 0)=some b→Mk H b):=fun b hb=>HFF.out.1 i hFi (by rw[HTL.out];exact hil) b (by rw[htg];exact hb)
           have HNN:Hid (isA (fol H (H.row.getD (j+1+i) 0))=false→us.length=ys.length→us=ys∧∀t,1≤t→t<i+1→InM H ys (T.getD t 0)):=fun e=>slot_next hsm2 (by rw[htg];unfold tgt;rw[if_neg (by rw[e];decide)])
           have HNP:Hid (isA (fol H (H.row.getD (j+1+i) 0))=true→(putI (av (fol H (H.row.getD (j+1+i) 0))) us).length=ys.length→putI (av (fol H (H.row.getD (j+1+i) 0))) us=ys∧∀t,1≤t→t<i+1→InM H ys (T.getD t 0)):=fun e=>slot_put hle2 hsm2 (by rw[htg];unfold tgt;rw[if_pos e])
           have HMP:Hid (isA (fol H (H.row.getD (j+1+i) 0))=true→Mk H (av (fol H (H.row.getD (j+1+i) 0)))):=fun e=>HMK3.out _ (by unfold tgt;rw[if_pos e])
           have i1:((j:Int)+1+(i:Int)).toNat=j+1+i:=by omega
           have i2:(0:Int)≤(j:Int)+1+(i:Int):=by omega
           have i3:(j:Int)+1+(i:Int)<(H.row.length:Int):=by omega
           have hjl1:j<1000:=by omega
           clear hO hgood hgo hsm2 hB hwi htg HMK3 y0
           generalize H.row.getD (j+1+i) 0=x at *
           generalize fol H x=z at *
           go_upto_region 27 with fail
           haveI:=ext_any wr
           refine region_grow (n:=wr.heap.size) (by kernel_rfl) (by kernel_rfl) ?_
           repeat (go_big_quiet_step (first|(go_at_call 91;exact HF3.out _)|(go_at_call 87;exact HS3.out _ _)))
           refine wpQuiet_nil ?_
           intro _ hw'
           obtain⟨E,rfl⟩:=hw'
           have HBx:Hid (Below W8.heap.size W8 E.to):=HBW3.out.trans (E.below.mono HBW3.out.size)
           have HBx2:Hid (Below X2.heap.size X2 E.to):=HB3.out.trans (E.below.mono HB3.out.size)
           have HOX:Hid _:=own_below HO3.out E.below
           clear z0 z1 z2 z3 z4 z5 z6 z7 z8 Y0 HF3 HS3 HO3 HB3 HBW3 t0 t1 t2 t3 t4 t5
           generalize E.to=W9 at *
           clear E this
           cases dA:isA z
           ·have HE:Hid _:=HNN.out dA
            clear dA HNN HNP HMP
            go_wp2
            exact⟨⟨i+1,_,us,rfl,by omega,by omega,by go_num,HOX.out,HG3.out,HGO3.out,hle2,HE.out,HBx.out⟩,by simp[intOf];omega⟩
           ·have sW:=HBx2.out.size
            have PT:=l1Put_any HOX.out (by omega) (by omega) (av z)
            have HE:Hid _:=HNP.out dA
            have HGP:Hid _:=Sm.put HG3.out (HMP.out dA)
            have HGQ:Hid _:=goes_put (b:=av z) HGO3.out
            have hle3:ys.length≤(putI (av z) us).length:=Nat.le_trans hle2 len_putI.1
            generalize av z=az at *
            clear dA HNN HNP HMP
            go_wp2_with (go_at_call 90;refine PT.mono ?_;clear PT;rintro e w4 ⟨v4,rfl,o4,b4⟩;have HO4:Hid _:=o4;have HB4:Hid _:=HBx.out.trans (b4.mono HBx.out.size);obtain⟨va4,vn4,vc4,rfl⟩:=ints_slice (own_ints o4);clear o4 b4)
            exact⟨⟨i+1,_,_,rfl,by omega,by omega,by go_num,HO4.out,HGP.out,HGQ.out,hle3,HE.out,HB4.out⟩,by simp[intOf];omega⟩
          ·have hil':¬(i:Int)<(sn:Int):=by omega
           have ei:i=sn:=by omega
           have HE:Hid _:=HFR.out 1 HFF.out us hle2 (by rw[ei]at hsm2;exact hsm2)
           clear hO hgood hgo hsm2 hB ei
           go_wp2
           exact⟨⟨k+1,_,us,rfl,by omega,by go_num,HO3.out,HG3.out,HGO3.out,by omega,HE.out,HB3.out⟩,by simp[intOf];omega⟩
        ·have HFF:Hid _:=HK2.out dA hin
         have hFsn:sn≤sn:=Nat.le_refl _
         rw[decide_eq_false hin]at HS
         generalize av z=az at *
         clear dA HK0 HK1 HK2 hin
         go_wp2_with (go_at_call 61;refine HS.mono ?_;clear HS;rintro e w4 ⟨rfl,hw4⟩;rw[hw4];clear hw4 w4)
         go_loopw [3,15,16,17] (fun o q _ _ wz=>∃(i:Nat) (v:Value) (us:List Int),v=o∧sn≤i∧i≤sn∧q = .int .i64 (i:Int)∧rows.Own wz w.heap.size v us∧Sm H us∧goesM H (fun a=>a ∈ us) A∧ys.length≤us.length∧(us.length=ys.length→us=ys∧∀t,sn≤t→t<i→InM H ys (T.getD t 0))∧Below W8.heap.size W8 wz) (fun _ q _ _ _=>sn-(intOf q).toNat)
         case atStart=>exact⟨sn,_,ys,rfl,Nat.le_refl _,hFsn,by first|rfl|simp,HOW.out,HGY.out,HGO.out,Nat.le_refl _,fun _=>⟨rfl,fun t h1 h2=>absurd h2 (by omega)⟩,Below.refl _ _⟩
         case round=>
          obtain⟨i,v,us,rfl,hFi,hi,rfl,hO,hgood,hgo,hle2,hsm2,hB⟩:=hrel
          have hgl3:=HLN.out us hgood
          obtain⟨va3,vc3,hvv⟩:∃a c,v = .slice a us.length c:=by
           obtain⟨a,c,e,_⟩:=own_ints hO
           exact⟨a,c,e⟩
          subst hvv
          obtain⟨t0,t1,t2,t3,t4,t5,_⟩:=headAt_cells (headAt_below HHW.out hB)
          have HO3:Hid _:=hO
          have HG3:Hid _:=hgood
          have HGO3:Hid _:=hgo
          have HSM3:Hid _:=hsm2
          have HBW3:Hid _:=hB
          have HB3:Hid (Below X2.heap.size X2 wr):=HBW.out.trans (hB.mono HBW.out.size)
          by_cases hil:i<sn
          ·exact absurd hil (by omega)
          ·have hil':¬(i:Int)<(sn:Int):=by omega
           have ei:i=sn:=by omega
           have HE:Hid _:=HFR.out sn HFF.out us hle2 (by rw[ei]at hsm2;exact hsm2)
           clear hO hgood hgo hsm2 hB ei
           go_wp2
           exact⟨⟨k+1,_,us,rfl,by omega,by go_num,HO3.out,HG3.out,HGO3.out,by omega,HE.out,HB3.out⟩,by simp[intOf];omega⟩
     ·have hlt2':¬(k:Int)<(ys.length:Int):=by omega
      have ek:k=ys.length:=by omega
      by_cases hsl:ys.length=xs.length
      ·obtain⟨e1,d1⟩:=hsame hsl
       have HE:Hid (ys=L):=by
        show _=_
        rw[e1]
        refine done_marks HL.out HGD.out (by rw[HAA.out,←e1];exact hgo) (fun t ht=>d1 t (by omega))
       have HBE:Hid _:=HB2.out.trans (hB.mono HB2.out.size)
       clear hO hgood hgo hsame hB d1 ek hsl
       subst e1
       have hsl':((ys.length:Int)==(ys.length:Int))=true:=by simp
       go_wp2
       go_ret
       exact⟨_,rfl,by rw[←HE.out];exact HO.out,HBE.out⟩
      ·have hsl':((ys.length:Int)==(xs.length:Int))=false:=by simp;omega
       clear hO hgood hgo hsame hB ek
       go_wp2
       exact⟨⟨_,ys,rfl,HO.out,HGY.out,HGO.out,HB.out⟩,by simp[slenM];omega⟩
end Go.Proofs.YtocidankimefpaaGreatDoor.hp
