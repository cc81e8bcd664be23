/-
  Chapter 13 as lists: what is marked. Chapter 9 as the specification has it: the places of all objects. Chapter 10 as lists: a heap made straight. Chapter 15 as lists: what is swept away, and that it may be walked then.
-/
import Derived.Test.YtocidankimefpaaGreatDoorM20
import Derived.Test.YtocidankimefpaaGreatDoorM4
namespace Go.Proofs.YtocidankimefpaaGreatDoor.hp
open Go.RowKit rows heads words walks
set_option maxRecDepth 100000
set_option linter.unusedVariables false
def tgt (H:Hp) (x:Int):Option Int:=if isA (fol H x)=true then some (av (fol H x)) else none
def goesM (H:Hp) (S:Int→Prop) (l:List Int):Prop:=∀x ∈ l,∀a,tgt H x=some a→S a
def fm (H:Hp) (p:Int):Int:=uF (H.row.getD p.toNat 0)
def keepsM (H:Hp) (p:Int):List Int:=if fm H p=0 then slotsOf H p else []
def restM (H:Hp) (p:Int):List Int:=if fm H p=2 then (slotsOf H p).drop 1 else []
def keyM (H:Hp) (p:Int):Option Int:=if fm H p=2 then tgt H ((slotsOf H p).getD 0 0) else none
def MClosed (H:Hp) (S:Int→Prop):Prop:=goesM H S (H.roots++H.mourned)∧∀p,S p→goesM H S (keepsM H p)∧((∀k,keyM H p=some k→S k)→goesM H S (restM H p))
def Mk (H:Hp) (a:Int):Prop:=∀S,MClosed H S→S a
theorem mk_closed (H:Hp):MClosed H (Mk H):=
 ⟨fun x hx a ha S c=>c.1 x hx a ha,fun p hp=>⟨fun x hx a ha S c=>(c.2 p (hp S c)).1 x hx a ha,fun hk x hx a ha S c=>(c.2 p (hp S c)).2 (fun k e=>hk k e S c) x hx a ha⟩⟩
def ObjAt (H:Hp) (ps:List Int) (a:Int):Prop:=a ∈ ps∧fm H a≠6∧fm H a≠7
theorem Rt.tgt_at {H:Hp} {ps:List Int} (R:Rt H ps) {x a:Int} (hx:wordIn H ps x=true) (h:tgt H x=some a):ObjAt H ps a:=by
 obtain⟨h1,h2⟩:=R.followed hx
 unfold tgt at h
 split at h
 ·rename_i hA
  injection h with h
  subst h
  obtain⟨h3,h4⟩:=word_place h1 hA
  refine⟨h3,h4,fun h7 => ?_⟩
  unfold toNote ntH at h2
  rw[hA,Bool.true_and]at h2
  unfold fm at h7
  rw[h7]at h2
  cases h2
 ·cases h
theorem Rt.slot_in {H:Hp} {ps:List Int} (R:Rt H ps) {p:Int} (hp:p ∈ ps) {x:Int} (hx:x ∈ slotsOf H p):wordIn H ps x=true:=by
 have hs:=R.slots
 unfold slotsOk at hs
 rw[List.all_eq_true]at hs
 have h1:=hs _ hp
 rw[List.all_eq_true]at h1
 exact h1 x hx
theorem Rt.root_in {H:Hp} {ps:List Int} (R:Rt H ps) {x:Int} (hx:x ∈ H.roots++H.mourned):wordIn H ps x=true:=by
 rcases List.mem_append.1 hx with h|h
 ·exact List.all_eq_true.1 R.roots x h
 ·have hm:=R.mourned
  unfold mournOk at hm
  have:=List.all_eq_true.1 hm x h
  rw[Bool.and_eq_true]at this
  exact this.2
theorem keepsM_in {H:Hp} {p x:Int} (h:x ∈ keepsM H p):x ∈ slotsOf H p:=by
 unfold keepsM at h
 split at h
 ·exact h
 ·cases h
theorem restM_in {H:Hp} {p x:Int} (h:x ∈ restM H p):x ∈ slotsOf H p:=by
 unfold restM at h
 split at h
 ·exact List.mem_of_mem_drop h
 ·cases h
theorem Rt.mk_at {H:Hp} {ps:List Int} (R:Rt H ps) {a:Int} (h:Mk H a):ObjAt H ps a:=
 h (ObjAt H ps) ⟨fun x hx a ha=>R.tgt_at (R.root_in hx) ha,fun p hp=>⟨fun x hx a ha=>R.tgt_at (R.slot_in hp.1 (keepsM_in hx)) ha,fun _ x hx a ha=>R.tgt_at (R.slot_in hp.1 (restM_in hx)) ha⟩⟩
def IsMarks (H:Hp) (L:List Int):Prop:=Rising L∧∀a,a ∈ L↔Mk H a
theorem isMarks_eq {H:Hp} {L K:List Int} (h:IsMarks H L) (k:IsMarks H K):L=K:=rising_ext h.1 k.1 (fun a=>(h.2 a).trans (k.2 a).symm)
theorem Rt.rising {H:Hp} {ps:List Int} (R:Rt H ps):Rising ps:=by
 obtain⟨N,_,r,u,hr,hu,_,rfl⟩:=places_facts R.some'
 have h3:=N.room
 have hl:=N.len
 refine List.pairwise_append.2 ⟨walkO_rising hr,walkO_rising hu,fun a ha b hb => ?_⟩
 obtain⟨i,rfl,_,hi,_⟩:=walkO_mem (by omega) hr ha
 obtain⟨j,rfl,hj,_,_⟩:=walkO_mem (by omega) hu hb
 omega
theorem isMarks_ex {H:Hp} {ps:List Int} (R:Rt H ps):∃L,IsMarks H L:=by
 classical
 refine⟨ps.filter (fun a=>decide (Mk H a)),R.rising.filter _,fun a => ?_⟩
 rw[List.mem_filter,decide_eq_true_eq]
 exact⟨fun h=>h.2,fun h=>⟨(R.mk_at h).1,h⟩⟩
theorem rising_sub_len {ps L:List Int} (hp:Rising ps) (h:Rising L) (hs:∀a ∈ L,a ∈ ps):L.length≤ps.length:=by
 have e:L=ps.filter (fun a=>decide (a ∈ L)):=rising_ext h (hp.filter _) (fun a=>by
  rw[List.mem_filter,decide_eq_true_eq]
  exact⟨fun e=>⟨hs a e,e⟩,fun e=>e.2⟩)
 rw[e]
 exact List.length_filter_le _ _
theorem Rt.marks_len {H:Hp} {ps L:List Int} (R:Rt H ps) (h:Rising L) (hs:∀a ∈ L,Mk H a):L.length≤500:=
 Nat.le_trans (rising_sub_len R.rising h (fun a ha=>(R.mk_at (hs a ha)).1)) (places_plc R.some').2
def IsMarksOk (H:Hp) (L:List Int):Prop:=(heapOk H=false∧L=[])∨(heapOk H=true∧IsMarks H L)
theorem isMarksOk_ex (H:Hp):∃L,IsMarksOk H L:=by
 cases h:heapOk H
 ·exact⟨[],.inl ⟨h,rfl⟩⟩
 ·obtain⟨ps,R⟩:=rt_of (ok_right h).1
  obtain⟨L,hL⟩:=isMarks_ex R
  exact⟨L,.inr ⟨h,hL⟩⟩
def InM (H:Hp) (M:List Int) (x:Int):Prop:=∀a,tgt H x=some a→a ∈ M
structure MI (H:Hp) (M:List Int) (Wt:Int→List Int) (Q A:Int→Prop):Prop where
 root:∀x ∈ H.roots++H.mourned,Q x∨InM H M x
 keeps:∀p ∈ M,∀x ∈ keepsM H p,Q x∨InM H M x
 rest:∀p ∈ M,A p∨∀x ∈ restM H p,Q x∨InM H M x∨∃k,keyM H p=some k∧k ∉ M∧x ∈ Wt k
 snd:∀p ∈ M,Mk H p
 wsnd:∀k,∀x ∈ Wt k,Mk H k→∀a,tgt H x=some a→Mk H a
 rise:Rising M
theorem MI.mono {H:Hp} {M:List Int} {Wt:Int→List Int} {Q Q' A:Int→Prop} (h:MI H M Wt Q A) (hQ:∀x,Q x→Q' x∨InM H M x):MI H M Wt Q' A:=by
 have f:∀x,Q x∨InM H M x→Q' x∨InM H M x:=fun x e=>e.elim (hQ x) .inr
 refine⟨fun x hx=>f x (h.root x hx),fun p hp x hx=>f x (h.keeps p hp x hx),fun p hp => ?_,h.snd,h.wsnd,h.rise⟩
 rcases h.rest p hp with e|e
 ·exact .inl e
 ·refine .inr (fun x hx => ?_)
  rcases e x hx with e|e|e
  ·rcases hQ x e with e|e
   ·exact .inl e
   ·exact .inr (.inl e)
  ·exact .inr (.inl e)
  ·exact .inr (.inr e)
theorem mI_start (H:Hp):MI H [] (fun _=>[]) (fun x=>x ∈ H.roots++H.mourned) (fun _=>False):=
 ⟨fun x hx => .inl hx,fun p hp=>absurd hp (by simp),fun p hp=>absurd hp (by simp),fun p hp=>absurd hp (by simp),fun k x hx=>absurd hx (by simp),List.Pairwise.nil⟩
theorem MI.fin {H:Hp} {M:List Int} {Wt:Int→List Int} (h:MI H M Wt (fun _=>False) (fun _=>False)):IsMarks H M:=by
 refine⟨h.rise,fun a=>⟨h.snd a,fun hm => ?_⟩⟩
 refine hm (fun a=>a ∈ M) ⟨fun x hx a ha => ?_,fun p hp=>⟨fun x hx a ha => ?_,fun hk x hx a ha => ?_⟩⟩
 ·exact (h.root x hx).elim False.elim (fun e=>e a ha)
 ·exact (h.keeps p hp x hx).elim False.elim (fun e=>e a ha)
 ·rcases h.rest p hp with e|e
  ·exact e.elim
  ·rcases e x hx with e|e|⟨k,e1,e2,_⟩
   ·exact e.elim
   ·exact e a ha
   ·exact absurd (hk k e1) e2
theorem inM_put {H:Hp} {M:List Int} {a x:Int} (h:InM H M x):InM H (putI a M) x:=fun b hb=>mem_putI.2 (.inr (h b hb))
theorem MI.come {H:Hp} {M:List Int} {Wt:Int→List Int} {Q A:Int→Prop} (h:MI H M Wt Q A) {a:Int} (hm:Mk H a) :
    MI H (putI a M) Wt (fun x=>(Q x∨x ∈ keepsM H a)∨x ∈ Wt a) (fun p=>A p∨p=a):=by
 refine⟨fun x hx => ?_,fun p hp x hx => ?_,fun p hp => ?_,fun p hp => ?_,h.wsnd,rising_putI h.rise⟩
 ·exact (h.root x hx).elim (fun e => .inl (.inl (.inl e))) (fun e => .inr (inM_put e))
 ·rcases mem_putI.1 hp with rfl|hp
  ·exact .inl (.inl (.inr hx))
  ·exact (h.keeps p hp x hx).elim (fun e => .inl (.inl (.inl e))) (fun e => .inr (inM_put e))
 ·rcases mem_putI.1 hp with rfl|hp
  ·exact .inl (.inr rfl)
  ·rcases h.rest p hp with e|e
   ·exact .inl (.inl e)
   ·refine .inr (fun x hx => ?_)
    rcases e x hx with e|e|⟨k,e1,e2,e3⟩
    ·exact .inl (.inl (.inl e))
    ·exact .inr (.inl (inM_put e))
    ·by_cases hk:k=a
     ·subst hk;exact .inl (.inr e3)
     ·exact .inr (.inr ⟨k,e1,fun hc=>(mem_putI.1 hc).elim hk e2,e3⟩)
 ·rcases mem_putI.1 hp with rfl|hp
  ·exact hm
  ·exact h.snd p hp
theorem MI.goRest {H:Hp} {M:List Int} {Wt:Int→List Int} {Q A:Int→Prop} {a:Int} (h:MI H M Wt Q (fun p=>A p∨p=a)):MI H M Wt (fun x=>Q x∨x ∈ restM H a) A:=by
 refine⟨fun x hx => ?_,fun p hp x hx => ?_,fun p hp => ?_,h.snd,h.wsnd,h.rise⟩
 ·exact (h.root x hx).elim (fun e => .inl (.inl e)) .inr
 ·exact (h.keeps p hp x hx).elim (fun e => .inl (.inl e)) .inr
 ·rcases h.rest p hp with (e|rfl)|e
  ·exact .inl e
  ·exact .inr (fun x hx => .inl (.inr hx))
  ·exact .inr (fun x hx=>(e x hx).elim (fun e => .inl (.inl e)) .inr)
theorem MI.wait {H:Hp} {M:List Int} {Wt:Int→List Int} {Q A:Int→Prop} {a k:Int} (h:MI H M Wt Q (fun p=>A p∨p=a)) (ha:a ∈ M) (hk:keyM H a=some k) (hn:k ∉ M) :
    MI H M (fun q=>if q=k then Wt k++restM H a else Wt q) Q A:=by
 refine⟨h.root,h.keeps,fun p hp => ?_,h.snd,fun q x hx hq b hb => ?_,h.rise⟩
 ·rcases h.rest p hp with (e|rfl)|e
  ·exact .inl e
  ·exact .inr (fun x hx => .inr (.inr ⟨k,hk,hn,by simp only[if_pos];exact List.mem_append_right _ hx⟩))
  ·refine .inr (fun x hx => ?_)
   rcases e x hx with e|e|⟨q,e1,e2,e3⟩
   ·exact .inl e
   ·exact .inr (.inl e)
   ·refine .inr (.inr ⟨q,e1,e2,?_⟩)
    show x ∈ (if q=k then _ else _)
    split
    ·rename_i hqk;subst hqk;exact List.mem_append_left _ e3
    ·exact e3
 ·have hx':x ∈ (if q=k then Wt k++restM H a else Wt q):=hx
  clear hx
  split at hx'
  ·rename_i hqk
   subst hqk
   rcases List.mem_append.1 hx' with hx|hx
   ·exact h.wsnd q x hx hq b hb
   ·exact ((mk_closed H).2 a (h.snd a ha)).2 (fun k' e=>by rw[hk]at e;injection e with e;subst e;exact hq) x hx b hb
  ·exact h.wsnd q x hx' hq b hb
end Go.Proofs.YtocidankimefpaaGreatDoor.hp
namespace Go.Proofs.YtocidankimefpaaGreatDoor.hp
open Go.RowKit rows heads words walks region
set_option maxRecDepth 100000
set_option linter.unusedVariables false
set_option linter.unusedSimpArgs false
def isO (H:Hp) (p:Int):Bool:= !(uF (H.row.getD p.toNat 0)==6)
def objL (H:Hp) (ps:List Int):List Int:=ps.filter (isO H)
theorem places_rising {H:Hp} {ps:List Int} (h:placesR H=some ps):Rising ps:=by
 obtain⟨N,_,r,u,hr,hu,_,rfl⟩:=places_facts h
 have hl:=N.len
 have h3:=N.room
 have m1:∀p ∈ r,p<2*(hf H:Int):=fun p hp=>by
  obtain⟨j,e,_,b,_⟩:=walkO_mem (by omega) hr hp
  omega
 have m2:∀p ∈ u,2*(hf H:Int)≤p:=fun p hp=>by
  obtain⟨j,e,b,_,_⟩:=walkO_mem (by omega) hu hp
  omega
 unfold Rising
 rw[List.pairwise_append]
 refine⟨walkO_rising hr,walkO_rising hu,fun a ha b hb => ?_⟩
 have:=m1 a ha
 have:=m2 b hb
 omega
theorem objL_next {H:Hp} {ps:List Int} {k:Nat} (hk:k<ps.length):objL H (ps.take (k+1))=objL H (ps.take k)++(if isO H (ps.getD k 0)=true then [ps.getD k 0] else []):=by
 unfold objL
 rw[List.take_add_one,List.filter_append,List.getElem?_eq_getElem hk,List.getD_eq_getElem?_getD,List.getElem?_eq_getElem hk]
 simp only[Option.toList_some,Option.getD_some]
 congr 1
 cases h:isO H ps[k]<;>simp[h]
theorem objL_put {H:Hp} {ps:List Int} (hr:Rising ps) {k:Nat} (hk:k<ps.length) (h:isO H (ps.getD k 0)=true):putI (ps.getD k 0) (objL H (ps.take k))=objL H (ps.take (k+1)):=by
 rw[objL_next hk,if_pos h]
 refine putI_last (fun x hx => ?_)
 exact rising_take hr hk x (List.mem_filter.1 hx).1
theorem objL_len (H:Hp) (ps:List Int):(objL H ps).length≤ps.length:=List.length_filter_le _ _
set_option maxHeartbeats 16000000 in
theorem l9Objects_any {w:World} {vr vo vm vs:Value} {H:Hp} (h:HpAt w vr vo vm vs H) {ps:List Int} (hps:placesR H=some ps) :
    Calls Tryz.prog 60 #[hpv H vr vo vm vs] w fun e w'=>∃v',e = .returned v'∧rows.Own w' w.heap.size v' (objL H ps)∧Below w.heap.size w w':=by
 obtain⟨hplc,hpl⟩:=places_plc hps
 have HPC:Hid _:=hplc
 have HRis:Hid _:=places_rising hps
 obtain⟨a1,c1,a2,c2,a3,c3,a4,c4,e1,e2,e3,e4⟩:=hpAt_slices h
 subst e1 e2 e3 e4
 have B0:Below w.heap.size w ((w.alloc (hpb H (.slice a1 H.row.length c1) (.slice a2 H.roots.length c2) (.slice a3 H.mourned.length c3) (.slice a4 H.seen.length c4))).alloc (.cells #[] 2)):=((Below.refl _ _).alloc (Nat.le_refl _) _).alloc (by simp) _
 have HO0:Hid (rows.Own ((w.alloc (hpb H (.slice a1 H.row.length c1) (.slice a2 H.roots.length c2) (.slice a3 H.mourned.length c3) (.slice a4 H.seen.length c4))).alloc (.cells #[] 2)) w.heap.size (.slice (some ⟨w.heap.size+1,0,none⟩) 0 0) []):=own_nothing2 (by simp) (by omega)
 have T0:Nine ((w.alloc (hpb H (.slice a1 H.row.length c1) (.slice a2 H.roots.length c2) (.slice a3 H.mourned.length c3) (.slice a4 H.seen.length c4))).alloc (.cells #[] 2)) w.heap.size 26 (.int .i64 H.half) (.int .i64 H.old) (.slice a1 H.row.length c1) (.int .i64 H.side) (.int .i64 H.top) (.slice a2 H.roots.length c2) (.slice a3 H.mourned.length c3) (.slice a4 H.seen.length c4) (.int .i64 H.seed):=nine_below (nine_new w H _ _ _ _) ((Below.refl _ _).alloc (Nat.le_refl _) _)
 obtain⟨⟨z0,z1,z2,z3,z4⟩,⟨z5,z6,z7,z8⟩,_⟩:=nine_cells T0
 have HT0:Hid _:=T0
 have HB0:Hid _:=B0
 have HH0:Hid _:=hpAt_below h B0
 have PL:=l9Places_any (hpAt_below h B0)
 rw[hps,Option.getD_some,Option.isSome_some]at PL
 clear B0 T0 h hps hplc
 go_enter Tryz.func60,Tryz.ntmps60
 go_wp2_with fail
 generalize ((w.alloc (hpb H (.slice a1 H.row.length c1) (.slice a2 H.roots.length c2) (.slice a3 H.mourned.length c3) (.slice a4 H.seen.length c4))).alloc (.cells #[] 2))=X at *
 refine PL.mono ?_
 clear PL
 rintro e w1 ⟨vp,rfl,O1,b1⟩
 have HO1:Hid (rows.Own w1 X.heap.size vp ps):=O1
 obtain⟨pa,pc,rfl,hp1,hp2,_,_⟩:=own_ints O1
 have HT1:Hid _:=nine_below HT0.out b1
 have HH1:Hid (HpAt w1 (.slice a1 H.row.length c1) (.slice a2 H.roots.length c2) (.slice a3 H.mourned.length c3) (.slice a4 H.seen.length c4) H):=hpAt_below HH0.out b1
 have HB1:Hid _:=HB0.out.trans (b1.mono HB0.out.size)
 have HE1:Hid _:=own_below HO0.out b1
 clear O1 b1 HT0 HH0 HB0 HO0 z0 z1 z2 z3 z4 z5 z6 z7 z8
 go_wp2_with fail
 go_loopw [3,6] (fun o p wr=>∃(k:Nat) (v:Value),v=o∧k≤ps.length∧p = .int .i64 (k:Int)∧rows.Own wr w.heap.size v (objL H (ps.take k))∧Below w1.heap.size w1 wr) (fun _ p _=>ps.length-(intOf p).toNat)
 case atStart=>exact⟨0,_,rfl,Nat.zero_le _,rfl,HE1.out,Below.refl _ _⟩
 case round=>
  obtain⟨k,v,rfl,hk,rfl,hO,hB⟩:=hrel
  clear HE1
  by_cases hlt:k<ps.length
  ·have hlt':(k:Int)<(ps.length:Int):=by omega
   have T5:=nine_below HT1.out hB
   have H5:=hpAt_below HH1.out hB
   have R5:=own_below HO1.out hB
   obtain⟨j,hj,hjl,hch⟩:=HPC.out (ps.getD k 0) (by rw[List.getD_eq_getElem?_getD,List.getElem?_eq_getElem hlt];exact List.getElem_mem hlt)
   obtain⟨lb,lo,ev,hlb,x0⟩:=ints_cell (own_ints R5) hlt
   subst ev
   have HIO:Hid (isO H (ps.getD k 0) = !(uF (H.row.getD j 0)==6)):=by show _=_;unfold isO;rw[hj,Int.toNat_natCast]
   have HNX:Hid (isO H (ps.getD k 0)=false→objL H (ps.take (k+1))=objL H (ps.take k)):=fun e=>by rw[objL_next hlt,if_neg (by rw[e];decide),List.append_nil]
   have HPU:Hid (isO H (ps.getD k 0)=true→putI (ps.getD k 0) (objL H (ps.take k))=objL H (ps.take (k+1))):=fun e=>objL_put HRis.out hlt e
   rw[hj]at x0 HIO HNX HPU
   obtain⟨⟨z0,z1,z2,z3,z4⟩,⟨z5,z6,z7,z8⟩⟩:=nine_grow T5
   have Y0:=cell_grow x0
   have HOV:Hid _:=hO
   obtain⟨oa,on,oc,rfl⟩:=ints_slice (own_ints hO)
   have HL4:Hid (∀x:Ext wr.heap.size wr,Calls Tryz.prog 45 #[.slice a1 H.row.length c1,.int .i64 (j:Int)] x.to fun e w''=>e = .returned (hv (uS (H.row.getD j 0)) (uF (H.row.getD j 0)) (uC (H.row.getD j 0)) (uH (H.row.getD j 0)) (uP (H.row.getD j 0)) (uM (H.row.getD j 0)))∧∃y:Ext wr.heap.size wr,w''=y.to):=fun x=>calls_grow (Nat.le_refl _) (l4Head_any (intsAt_below H5.1 x.below) j hjl)
   have HBr:Hid _:=hB
   clear hj hO T5 H5 R5 hB hch
   generalize uF (H.row.getD j 0)=f at *
   generalize uS (H.row.getD j 0)=s at *
   generalize uC (H.row.getD j 0)=c at *
   generalize uH (H.row.getD j 0)=g at *
   generalize uP (H.row.getD j 0)=p at *
   generalize uM (H.row.getD j 0)=m at *
   have FF:=field_format s f c g p m
   go_upto_region 6 with fail
   haveI:=ext_any wr
   refine region_grow (n:=wr.heap.size) (by kernel_rfl) (by kernel_rfl) ?_
   repeat (go_big_quiet_step ((go_at_call 45;exact HL4.out _)))
   refine wpQuiet_nil ?_
   intro _ hw'
   obtain⟨x,rfl⟩:=hw'
   have HBx:Hid (Below w1.heap.size w1 x.to):=HBr.out.trans (x.below.mono HBr.out.size)
   have HOX:Hid _:=own_below HOV.out x.below
   have y0:=Y0 x
   clear z0 z1 z2 z3 z4 z5 z6 z7 z8 Y0 HL4 HOV HBr
   generalize x.to=W at *
   clear x this FF
   by_cases h6:f=6
   ·subst h6
    have HV:Hid _:=HNX.out (by rw[HIO.out];rfl)
    clear HPU HNX HIO
    go_wp2
    exact⟨⟨k+1,_,rfl,by omega,by go_num,by rw[HV.out];exact HOX.out,HBx.out⟩,by simp[intOf];omega⟩
   ·have h6':(f != 6)=true:=by simp[h6]
    have hbw:w.heap.size≤W.heap.size:=(HB1.out.trans (HBx.out.mono HB1.out.size)).size
    have PU:=l1Put_any HOX.out hbw (Nat.le_trans (objL_len _ _) (by rw[List.length_take];omega)) (j:Int)
    rw[HPU.out (by rw[HIO.out];simpa using h6)]at PU
    clear HPU HNX HIO hbw
    go_wp2_with (go_at_call 90;refine PU.mono ?_;clear PU;rintro e w5 ⟨v5,rfl,O5,b5⟩;have HO5:Hid _:=O5;have HB5:Hid (Below w1.heap.size w1 w5):=HBx.out.trans (b5.mono HBx.out.size);obtain⟨a5,n5,c5,rfl⟩:=ints_slice (own_ints O5);clear O5 b5 y0)
    exact⟨⟨k+1,_,rfl,by omega,by go_num,HO5.out,HB5.out⟩,by simp[intOf];omega⟩
  ·have hlt':¬(k:Int)<(ps.length:Int):=by omega
   have HV:Hid (rows.Own wr w.heap.size v (objL H ps)):=by
    have:=hO
    rwa [List.take_of_length_le (show ps.length≤k by omega)]at this
   have HBE:Hid _:=HB1.out.trans (hB.mono HB1.out.size)
   obtain⟨oa,on,oc,rfl⟩:=ints_slice (own_ints hO)
   clear hO hB
   go_wp2
   go_ret
   exact⟨_,rfl,HV.out,HBE.out⟩
end Go.Proofs.YtocidankimefpaaGreatDoor.hp
namespace Go.Proofs.YtocidankimefpaaGreatDoor.hp
open Go.RowKit rows heads words walks
set_option maxRecDepth 100000
set_option linter.unusedVariables false
def putR (xs:List Int) (k:Nat) (ys:List Int):List Int:=xs.take k++ys++xs.drop (k+ys.length)
theorem putR_len {xs:List Int} {k:Nat} {ys:List Int} (h:k+ys.length≤xs.length):(putR xs k ys).length=xs.length:=by simp[putR];omega
theorem putR_get {xs:List Int} {k:Nat} {ys:List Int} (h:k+ys.length≤xs.length) (q:Nat):(putR xs k ys).getD q 0=if k≤q∧q<k+ys.length then ys.getD (q-k) 0 else xs.getD q 0:=by
 unfold putR
 simp only[List.getD_eq_getElem?_getD]
 by_cases h1:q<k
 ·rw[if_neg (by omega),List.append_assoc,List.getElem?_append_left (by simp;omega),List.getElem?_take,if_pos h1]
 ·by_cases h2:q<k+ys.length
  ·rw[if_pos ⟨by omega,h2⟩,List.getElem?_append_left (by simp;omega),List.getElem?_append_right (by simp;omega)]
   congr 2
   simp
   omega
  ·rw[if_neg (by omega),List.getElem?_append_right (by simp;omega),List.getElem?_drop]
   congr 2
   simp
   omega
theorem putR_nil (xs:List Int) (k:Nat):putR xs k []=xs:=by simp[putR]
theorem putR_snoc {xs:List Int} {k:Nat} {ys:List Int} {y:Int} (h:k+ys.length<xs.length):(putR xs k ys).set (k+ys.length) y=putR xs k (ys++[y]):=by
 unfold putR
 rw[List.set_append_right _ _ (by simp;omega)]
 rw[show k+ys.length-(xs.take k++ys).length=0 by simp;omega,List.drop_eq_getElem_cons h,List.set_cons_zero]
 simp[Nat.add_assoc]
def covP (H:Hp) (p:Int) (q:Nat):Bool:= !(ntH H p)&&decide (p.toNat+1≤q)&&decide (q<p.toNat+1+(slotsOf H p).length)
def cov (H:Hp) (os:List Int) (q:Nat):Bool:=os.any (fun p=>covP H p q)
def strAt (H:Hp) (xs:List Int) (p:Int):List Int:=if ntH H p=true then xs else putR xs (p.toNat+1) ((slotsOf H p).map (fol H))
def strRow (H:Hp) (os:List Int):List Int:=os.foldl (strAt H) H.row
theorem strRow_next {H:Hp} {os:List Int} {k:Nat} (hk:k<os.length):strRow H (os.take (k+1))=strAt H (strRow H (os.take k)) (os.getD k 0):=by
 unfold strRow
 rw[List.take_add_one,List.foldl_append,List.getElem?_eq_getElem hk,List.getD_eq_getElem?_getD,List.getElem?_eq_getElem hk]
 rfl
structure Dif (H:Hp) (os:List Int) (xs:List Int):Prop where
 len:xs.length=H.row.length
 same:∀q,cov H os q=false→xs.getD q 0=H.row.getD q 0
structure Apart (H:Hp) (ps:List Int):Prop where
 pair:ps.Pairwise (fun p q=>p+chunk H.row p.toNat≤q)
 nat:∀p ∈ ps,∃j:Nat,p=j∧chunk H.row j≠0∧j<H.row.length
theorem walkL_apart (xs:List Int) (t:Nat):∀(n k:Nat) (l:List Int),walkL xs t n k=some l→l.Pairwise (fun p q=>p+chunk xs p.toNat≤q)∧∀p ∈ l,(k:Int)≤p∧p+chunk xs p.toNat≤t:=by
 intro n
 induction n with
 |zero=>
  intro k l h
  unfold walkL at h
  split at h
  ·cases h
  ·cases h;exact⟨List.Pairwise.nil,fun x hx=>by simp at hx⟩
 |succ n ih=>
  intro k l h
  by_cases h1:k<t
  ·by_cases hb:chunk xs k=0∨(k:Int)+chunk xs k > t
   ·rw[walkL_bad _ _ _ _ h1 hb]at h;cases h
   ·rw[walkL_step _ _ _ _ h1 hb]at h
    obtain⟨l',hl',rfl⟩:=Option.map_eq_some_iff.1 h
    obtain⟨i1,i2⟩:=ih _ _ hl'
    have:=chunk_bounds xs k
    refine⟨List.Pairwise.cons (fun x hx => ?_) i1,fun x hx => ?_⟩
    ·have:=(i2 x hx).1
     rw[Int.toNat_natCast]
     omega
    ·rcases List.mem_cons.1 hx with rfl|hx
     ·rw[Int.toNat_natCast];omega
     ·have:=i2 x hx;omega
  ·rw[walkL_end _ _ _ _ h1]at h
   cases h;exact⟨List.Pairwise.nil,fun x hx=>by simp at hx⟩
theorem apart_of {H:Hp} {ps:List Int} (h:placesR H=some ps):Apart H ps:=by
 have hp:=(places_plc h).1
 obtain⟨N,_,r,u,hr,hu,_,rfl⟩:=places_facts h
 obtain⟨p1,m1⟩:=walkL_apart _ _ _ _ _ hr
 obtain⟨p2,m2⟩:=walkL_apart _ _ _ _ _ hu
 have:=N.room
 refine⟨List.pairwise_append.2 ⟨p1,p2,fun a ha b hb => ?_⟩,fun p hpp => ?_⟩
 ·have q1:=(m1 a ha).2
  have q2:=(m2 b hb).1
  omega
 ·obtain⟨j,a,b,c⟩:=hp p hpp
  exact⟨j,a,c,b⟩
theorem Apart.two {H:Hp} {ps:List Int} (h:Apart H ps) {i j:Nat} (hi:(i:Int) ∈ ps) (hj:(j:Int) ∈ ps) (hlt:i<j):(i:Int)+chunk H.row i≤j:=by
 obtain⟨a,ha,ea⟩:=List.getElem_of_mem hi
 obtain⟨b,hb,eb⟩:=List.getElem_of_mem hj
 have hP:=List.pairwise_iff_getElem.1 h.pair
 rcases Nat.lt_trichotomy a b with q|q|q
 ·have:=hP a b ha hb q
  rw[ea,eb,Int.toNat_natCast]at this
  exact this
 ·subst q
  rw[ea]at eb
  omega
 ·have:=hP b a hb ha q
  rw[ea,eb,Int.toNat_natCast]at this
  have c:=chunk_bounds H.row j
  omega
theorem slots_end {H:Hp} {j:Nat} (hc:chunk H.row j≠0) (h6:uF (H.row.getD j 0)≠6):(j:Int)+1+(slotsOf H j).length≤j+chunk H.row j:=by
 have hb:=chunk_bounds H.row j
 rw[slots_len hc]
 have e:chunk H.row j=sz (uS (H.row.getD j 0)):=by
  unfold chunk at hc ⊢
  by_cases h0:(ok (H.row.getD j 0) && !uM (H.row.getD j 0))=true
  ·rw[if_pos h0,if_neg h6]at hc ⊢
   by_cases h3:(j:Int)+sz (uS (H.row.getD j 0))≤H.row.length∧(uF (H.row.getD j 0)=7→isA (H.row.getD (j+1) 0)=true)
   ·rw[if_pos h3]
   ·rw[if_neg h3]at hc;exact absurd rfl hc
  ·rw[if_neg h0]at hc;exact absurd rfl hc
 obtain⟨s1,s2⟩:=uS_bounds (H.row.getD j 0)
 have sb:=sz_bounds s1 s2
 unfold cnS
 by_cases h7:uF (H.row.getD j 0)=7
 ·rw[if_pos h7];omega
 ·rw[if_neg h7,if_neg h6];omega
theorem objL_mem {H:Hp} {ps:List Int} {p:Int} (h:p ∈ objL H ps):p ∈ ps∧uF (H.row.getD p.toNat 0)≠6:=by
 obtain⟨a,b⟩:=List.mem_filter.1 h
 refine⟨a,?_⟩
 unfold isO at b
 simpa using b
theorem cov_head {H:Hp} {ps os:List Int} (hA:Apart H ps) (ho:∀p ∈ os,p ∈ objL H ps) {j:Nat} (hj:(j:Int) ∈ ps):cov H os j=false:=by
 unfold cov
 rw[List.any_eq_false]
 intro p hp hc
 obtain⟨hpp,h6⟩:=objL_mem (ho p hp)
 obtain⟨i,rfl,hci,_⟩:=hA.nat p hpp
 rw[Int.toNat_natCast]at h6
 simp only[covP,Bool.and_eq_true,decide_eq_true_eq,Int.toNat_natCast]at hc
 have e:=slots_end hci h6
 have:=hA.two hpp hj (by omega)
 omega
theorem cov_second {H:Hp} {ps os:List Int} (hA:Apart H ps) (ho:∀p ∈ os,p ∈ objL H ps) {j:Nat} (hj:(j:Int) ∈ ps) (h:uF (H.row.getD j 0)=7∨uF (H.row.getD j 0)=6):cov H os (j+1)=false:=by
 unfold cov
 rw[List.any_eq_false]
 intro p hp hc
 obtain⟨hpp,h6⟩:=objL_mem (ho p hp)
 obtain⟨i,rfl,hci,_⟩:=hA.nat p hpp
 rw[Int.toNat_natCast]at h6
 simp only[covP,Bool.and_eq_true,decide_eq_true_eq,Int.toNat_natCast,Bool.not_eq_true']at hc
 have e:=slots_end hci h6
 obtain⟨⟨c1,c2⟩,c3⟩:=hc
 rcases Nat.lt_trichotomy i j with q|q|q
 ·have:=hA.two hpp hj q
  omega
 ·subst q
  unfold ntH at c1
  rw[Int.toNat_natCast]at c1
  rcases h with h|h
  ·rw[h]at c1;cases c1
  ·exact h6 h
 ·omega
structure Sim (H H':Hp) (ps:List Int):Prop where
 len:H'.row.length=H.row.length
 head:∀j:Nat,(j:Int) ∈ ps→H'.row.getD j 0=H.row.getD j 0
 second:∀j:Nat,(j:Int) ∈ ps→(uF (H.row.getD j 0)=7∨uF (H.row.getD j 0)=6)→H'.row.getD (j+1) 0=H.row.getD (j+1) 0
theorem sim_of {H H':Hp} {ps os:List Int} (hA:Apart H ps) (ho:∀p ∈ os,p ∈ objL H ps) (hD:Dif H os H'.row):Sim H H' ps:=
 ⟨hD.len,fun j hj=>hD.same _ (cov_head hA ho hj),fun j hj h=>hD.same _ (cov_second hA ho hj h)⟩
theorem dif_put {H:Hp} {os:List Int} {xs:List Int} (hD:Dif H os xs) {p:Int} (hp:p ∈ os) (hn:ntH H p=false) {ys:List Int} (hy:ys.length≤(slotsOf H p).length) (hl:p.toNat+1+(slotsOf H p).length≤H.row.length):Dif H os (putR xs (p.toNat+1) ys):=by
 have hl':p.toNat+1+ys.length≤xs.length:=by rw[hD.len];omega
 refine⟨(putR_len hl').trans hD.len,fun q hq => ?_⟩
 rw[putR_get hl',if_neg,hD.same q hq]
 rintro⟨q1,q2⟩
 have:cov H os q=true:=by
  unfold cov
  rw[List.any_eq_true]
  refine⟨p,hp,?_⟩
  simp only[covP,hn,Bool.not_false,Bool.true_and,Bool.and_eq_true,decide_eq_true_eq]
  omega
 rw[this]at hq
 cases hq
theorem dif_refl (H:Hp) (os:List Int):Dif H os H.row:=⟨rfl,fun _ _=>rfl⟩
theorem obj_len {H:Hp} {ps:List Int} (hA:Apart H ps) {p:Int} (hp:p ∈ objL H ps):p.toNat+1+(slotsOf H p).length≤H.row.length:=by
 obtain⟨hpp,h6⟩:=objL_mem hp
 obtain⟨i,rfl,hci,_⟩:=hA.nat p hpp
 rw[Int.toNat_natCast]at h6 ⊢
 have e:=slots_end hci h6
 have:=chunk_bounds H.row i
 omega
theorem dif_row {H:Hp} {ps os:List Int} (hA:Apart H ps) (ho:∀p ∈ os,p ∈ objL H ps):∀k,k≤os.length→Dif H os (strRow H (os.take k))
 |0,_=>by simpa [strRow] using dif_refl H os
 |k+1,hk=>by
  have ih:=dif_row hA ho k (by omega)
  have hm:os.getD k 0 ∈ os:=by rw[List.getD_eq_getElem?_getD,List.getElem?_eq_getElem (show k<os.length by omega)];exact List.getElem_mem _
  rw[strRow_next (by omega)]
  unfold strAt
  split
  ·exact ih
  ·rename_i hn
   exact dif_put ih hm (by simpa using hn) (by simp) (obj_len hA (ho _ hm))
theorem row_later {H:Hp} {ps os:List Int} (hA:Apart H ps) (ho:∀p ∈ os,p ∈ objL H ps) (hr:Rising os) {k:Nat} (hk:k<os.length) (q:Nat) (hq:(os.getD k 0).toNat≤q):(strRow H (os.take k)).getD q 0=H.row.getD q 0:=by
 have hD:Dif H (os.take k) (strRow H (os.take k)):=by
  have:=dif_row (os:=os.take k) hA (fun p hp=>ho p (List.mem_of_mem_take hp)) k (by simp;omega)
  rwa [List.take_take,Nat.min_self]at this
 refine hD.same q ?_
 unfold cov
 rw[List.any_eq_false]
 intro p hp hc
 have hlt:=rising_take hr hk p hp
 have hm:os.getD k 0 ∈ os:=by rw[List.getD_eq_getElem?_getD,List.getElem?_eq_getElem hk];exact List.getElem_mem _
 obtain⟨h1,h6⟩:=objL_mem (ho p (List.mem_of_mem_take hp))
 obtain⟨h2,_⟩:=objL_mem (ho _ hm)
 obtain⟨i,rfl,hci,_⟩:=hA.nat p h1
 obtain⟨j,ej,_,_⟩:=hA.nat _ h2
 rw[ej]at hlt h2 hq
 rw[Int.toNat_natCast]at h6 hq
 have e:=slots_end hci h6
 have:=hA.two h1 h2 (by omega)
 simp only[covP,Bool.and_eq_true,decide_eq_true_eq,Int.toNat_natCast]at hc
 omega
def strH (H:Hp) (ps:List Int):Hp:= { H with row:=strRow H (objL H ps),roots:=H.roots.map (fol H),mourned:=H.mourned.map (fol H) }
def strF (H:Hp) (ps:List Int):Hp:= { strH H ps with seen:=seenL (strH H ps) }
theorem chunk_sim {H H':Hp} {ps:List Int} (S:Sim H H' ps) {j:Nat} (hj:(j:Int) ∈ ps):chunk H'.row j=chunk H.row j:=by
 unfold chunk
 rw[S.head j hj,S.len]
 by_cases h6:uF (H.row.getD j 0)=6
 ·rw[S.second j hj (.inr h6)]
 ·by_cases h7:uF (H.row.getD j 0)=7
  ·rw[S.second j hj (.inl h7)]
  ·simp only[if_neg h6,h7,false_implies]
theorem walkL_sim {H H':Hp} {ps:List Int} (S:Sim H H' ps) (t:Nat):∀(n k:Nat) (l:List Int),walkL H.row t n k=some l→(∀p ∈ l,p ∈ ps)→walkL H'.row t n k=some l:=by
 intro n
 induction n with
 |zero=>
  intro k l h _
  unfold walkL at h ⊢
  exact h
 |succ n ih=>
  intro k l h hm
  by_cases h1:k<t
  ·by_cases hb:chunk H.row k=0∨(k:Int)+chunk H.row k > t
   ·rw[walkL_bad _ _ _ _ h1 hb]at h;cases h
   ·rw[walkL_step _ _ _ _ h1 hb]at h
    obtain⟨l',hl',rfl⟩:=Option.map_eq_some_iff.1 h
    have e:=chunk_sim S (hm _ (List.mem_cons_self ..))
    rw[walkL_step _ _ _ _ h1 (by rw[e];exact hb),e,ih _ _ hl' (fun p hp=>hm p (List.mem_cons_of_mem _ hp))]
    rfl
  ·rw[walkL_end _ _ _ _ h1]at h ⊢
   exact h
theorem sim_places {H:Hp} {ps os:List Int} (h:placesR H=some ps) (ho:∀p ∈ os,p ∈ objL H ps) {H':Hp} (hD:Dif H os H'.row) (e1:H'.half=H.half) (e2:H'.old=H.old) (e3:H'.side=H.side) (e4:H'.top=H.top) (e5:H'.seed=H.seed) (e6:H'.roots.length=H.roots.length) (e7:H'.mourned.length=H.mourned.length) :
    placesR H'=some ps∧upW H'=upW H∧Nums H'∧numB H'=true:=by
 have hA:=apart_of h
 have S:=sim_of hA ho hD
 have hb:hbad H'=hbad H:=by
  unfold hbad hb8 hb7 hb6 hb5 hb4 hb3 hb2 hb1 hb0
  rw[e1,e2,e3,e4,e5,e6,e7,S.len]
 have hb0:hbad H=false:=by
  cases e:hbad H
  ·rfl
  ·unfold placesR at h;rw[if_pos e]at h;cases h
 obtain⟨N,hz,r,u,hr,hu,hall,hps⟩:=places_facts h
 have q1:bs H'=bs H:=by unfold bs;rw[e3,e1]
 have q2:tp H'=tp H:=by unfold tp;rw[e4]
 have q3:hf H'=hf H:=by unfold hf;rw[e1]
 have q4:od H'=od H:=by unfold od;rw[e2]
 have w1:roomW H'=some r:=by
  unfold roomW walkO
  rw[q1,q2]
  exact walkL_sim S _ _ _ _ hr (fun p hp=>by rw[hps];exact List.mem_append.2 (.inl hp))
 have w2:upW H'=some u:=by
  unfold upW walkO
  rw[q3,q4]
  exact walkL_sim S _ _ _ _ hu (fun p hp=>by rw[hps];exact List.mem_append.2 (.inr hp))
 have hal:r.all (roomOk H')=true:=by
  rw[List.all_eq_true]at hall ⊢
  intro p hp
  have hpp:p ∈ ps:=by rw[hps];exact List.mem_append.2 (.inl hp)
  obtain⟨j,rfl,_,_⟩:=hA.nat p hpp
  have:=hall _ hp
  unfold roomOk at this ⊢
  rw[Int.toNat_natCast]at this ⊢
  rwa [S.head j hpp]
 obtain⟨_,m1⟩:=walkL_apart _ _ _ _ _ hr
 obtain⟨_,m2⟩:=walkL_apart _ _ _ _ _ hu
 have hzz:zeroB H'=true:=by
  refine zeroB_true (fun i hi => ?_)
  have hi':i<2*hf H:=by rw[q3]at hi;exact hi
  have hz0:zeroAt H i=true:=by
   unfold zeroB at hz
   rw[List.all_eq_true]at hz
   exact hz i (List.mem_range.2 hi')
  unfold zeroAt at hz0 ⊢
  rw[q1,q2]
  by_cases hc:i<bs H∨bs H+tp H≤i
  ·have hcv:cov H os i=false:=by
     unfold cov
     rw[List.any_eq_false]
     intro p hp hcp
     obtain⟨hpp,h6⟩:=objL_mem (ho p hp)
     obtain⟨j,rfl,hci,_⟩:=hA.nat p hpp
     rw[Int.toNat_natCast]at h6
     have e:=slots_end hci h6
     simp only[covP,Bool.and_eq_true,decide_eq_true_eq,Int.toNat_natCast]at hcp
     rw[hps]at hpp
     rcases List.mem_append.1 hpp with hpp|hpp
     ·have:=m1 _ hpp
      rw[Int.toNat_natCast]at this
      omega
     ·have:=m2 _ hpp
      omega
   rw[hD.same i hcv]
   exact hz0
  ·simp only[not_or,Nat.not_lt,Nat.not_le]at hc
   have d1:decide (i<bs H)=false:=decide_eq_false (by omega)
   have d2:decide (bs H+tp H≤i)=false:=decide_eq_false (by omega)
   rw[d1,d2];rfl
 have hN:Nums H':=nums_of (hb.trans hb0)
 refine⟨?_,w2.trans hu.symm,hN,((numB_bad H').1 (hb.trans hb0)).1⟩
 unfold placesR
 rw[if_neg (by rw[hb,hb0];decide),placesB_yes hzz w1 w2 hal,hps]
def folK (H:Hp) (xs:List Int) (k:Nat):List Int:=(xs.take k).map (fol H)++xs.drop k
theorem folK_len (H:Hp) (xs:List Int) {k:Nat} (hk:k≤xs.length):(folK H xs k).length=xs.length:=by simp[folK];omega
theorem folK_get (H:Hp) (xs:List Int) {k:Nat} (hk:k<xs.length):(folK H xs k).getD k 0=xs.getD k 0:=by
 unfold folK
 rw[List.getD_eq_getElem?_getD,List.getElem?_append_right (by simp;omega),List.length_map,List.length_take,Nat.min_eq_left (by omega),Nat.sub_self,List.getElem?_drop,Nat.add_zero,←List.getD_eq_getElem?_getD]
theorem folK_set (H:Hp) (xs:List Int) {k:Nat} (hk:k<xs.length):(folK H xs k).set k (fol H (xs.getD k 0))=folK H xs (k+1):=by
 unfold folK
 rw[List.set_append_right _ _ (by simp;omega),List.length_map,List.length_take,Nat.min_eq_left (by omega),Nat.sub_self,List.drop_eq_getElem_cons hk,List.set_cons_zero,List.take_add_one,List.getElem?_eq_getElem hk,List.map_append,List.append_assoc,List.getD_eq_getElem?_getD,List.getElem?_eq_getElem hk]
 rfl
theorem folK_end (H:Hp) (xs:List Int):folK H xs xs.length=xs.map (fol H):=by simp[folK]
theorem folK_zero (H:Hp) (xs:List Int):folK H xs 0=xs:=by simp[folK]
end Go.Proofs.YtocidankimefpaaGreatDoor.hp
namespace Go.Proofs.YtocidankimefpaaGreatDoor.hp
open Go.RowKit rows heads words walks
set_option maxRecDepth 100000
set_option linter.unusedVariables false
set_option linter.unusedSimpArgs false
def blankR (xs:List Int) (k:Nat) (s:Int):List Int:=put xs k (pk s 0 0 0 false false) (List.replicate s.toNat 2) s.toNat (sz s).toNat
theorem blank_head:∀s:Fin 21,ok (pk (s.val:Int) 0 0 0 false false)=true∧uS (pk (s.val:Int) 0 0 0 false false)=s.val∧uF (pk (s.val:Int) 0 0 0 false false)=0∧uP (pk (s.val:Int) 0 0 0 false false)=false∧uM (pk (s.val:Int) 0 0 0 false false)=false:=by decide
theorem blank_at {s:Int} (h0:0≤s) (h1:s≤20):ok (pk s 0 0 0 false false)=true∧uS (pk s 0 0 0 false false)=s∧uF (pk s 0 0 0 false false)=0∧uP (pk s 0 0 0 false false)=false∧uM (pk s 0 0 0 false false)=false:=by
 have:=blank_head ⟨s.toNat,by omega⟩
 simp only at this
 rwa [Int.toNat_of_nonneg h0]at this
theorem sz_at {s:Int} (h0:0≤s) (h1:s≤20):sz s=s+1+(s+1) % 2:=by unfold sz;rw[if_pos (by simp[inR,h0,h1])]
theorem put2_getD {xs:List Int} {k m n:Nat} {hd:Int} (h:k+n≤xs.length) (hlt:m<n) (i:Nat):(put xs k hd (List.replicate m 2) m n).getD i 0=if i=k then hd else if k<i∧i≤k+m then 2 else if k≤i∧i<k+n then 0 else xs.getD i 0:=by
 simp only[put,List.getD_eq_getElem?_getD,List.getElem?_append,List.length_take,List.getElem?_take,List.getElem?_cons,List.length_cons,List.getElem?_replicate,List.length_append,List.length_replicate,List.getElem?_drop,List.length_nil,List.getElem?_nil]
 grind
theorem blank_getD {xs:List Int} {k:Nat} {s:Int} (h0:0≤s) (h1:s≤20) (h:k+(sz s).toNat≤xs.length) (i:Nat):(blankR xs k s).getD i 0=if i=k then pk s 0 0 0 false false else if k<i∧i≤k+s.toNat then 2 else if k≤i∧i<k+(sz s).toNat then 0 else xs.getD i 0:=by
 have hz:=sz_at h0 h1
 exact put2_getD h (by omega) i
theorem blank_length {xs:List Int} {k:Nat} {s:Int} (h0:0≤s) (h1:s≤20) (h:k+(sz s).toNat≤xs.length):(blankR xs k s).length=xs.length:=put_length h (by simp) (by have:=sz_at h0 h1;omega)
theorem chunk_blank {xs:List Int} {k:Nat} {s:Int} (h0:0≤s) (h1:s≤20) (h:k+(sz s).toNat≤xs.length):chunk (blankR xs k s) k=sz s∧uF ((blankR xs k s).getD k 0)=0∧uP ((blankR xs k s).getD k 0)=false:=by
 have hl:=blank_length h0 h1 h
 have e0:(blankR xs k s).getD k 0=pk s 0 0 0 false false:=by rw[blank_getD h0 h1 h,if_pos rfl]
 obtain⟨b1,b2,b3,b4,b5⟩:=blank_at h0 h1
 have hz:=sz_at h0 h1
 refine⟨?_,by rw[e0];exact b3,by rw[e0];exact b4⟩
 unfold chunk
 rw[e0,hl,b1,b2,b3,b5,if_pos (by rfl),if_neg (by decide),if_pos ⟨by omega,fun e=>absurd e (by decide)⟩]
def dropR (H:Hp) (xs:List Int) (p:Int):List Int:=if p<2*H.half then blankR xs p.toNat (uS (H.row.getD p.toNat 0)) else freeR xs p.toNat (chunk H.row p.toNat).toNat
def swpS (H:Hp) (L:List Int) (xs:List Int) (p:Int):List Int:=if p ∈ L then xs else dropR H xs p
def swpRow (H:Hp) (L os:List Int):List Int:=os.foldl (swpS H L) H.row
theorem swp_next {H:Hp} {L os:List Int} {k:Nat} (hk:k<os.length):swpRow H L (os.take (k+1))=swpS H L (swpRow H L (os.take k)) (os.getD k 0):=by
 unfold swpRow
 rw[List.take_add_one,List.foldl_append,List.getElem?_eq_getElem hk,List.getD_eq_getElem?_getD,List.getElem?_eq_getElem hk]
 rfl
theorem chunk_sz {xs:List Int} {j:Nat} (h:chunk xs j≠0) (h6:uF (xs.getD j 0)≠6):chunk xs j=sz (uS (xs.getD j 0))∧0≤uS (xs.getD j 0)∧uS (xs.getD j 0)≤20∧j+(sz (uS (xs.getD j 0))).toNat≤xs.length:=by
 have hb:=chunk_bounds xs j
 have hu:=uS_bounds (xs.getD j 0)
 have e:chunk xs j=sz (uS (xs.getD j 0)):=by
  by_cases q1:(ok (xs.getD j 0) && !uM (xs.getD j 0))=true
  ·by_cases q2:(j:Int)+sz (uS (xs.getD j 0))≤xs.length∧(uF (xs.getD j 0)=7→isA (xs.getD (j+1) 0)=true)
   ·unfold chunk
    rw[if_pos q1,if_neg h6,if_pos q2]
   ·refine absurd ?_ h
    unfold chunk
    rw[if_pos q1,if_neg h6,if_neg q2]
  ·refine absurd ?_ h
   unfold chunk
   rw[if_neg q1]
 exact⟨e,hu.1,hu.2,by omega⟩
theorem drop_facts {H:Hp} {xs:List Int} {j:Nat} (hl:xs.length=H.row.length) (hc:chunk H.row j≠0) (h6:uF (H.row.getD j 0)≠6):(dropR H xs (j:Int)).length=H.row.length∧(∀q,q<j∨j+(chunk H.row j).toNat≤q→(dropR H xs (j:Int)).getD q 0=xs.getD q 0)∧chunk (dropR H xs (j:Int)) j=chunk H.row j∧((j:Int)<2*H.half→uF ((dropR H xs (j:Int)).getD j 0)=0∧uP ((dropR H xs (j:Int)).getD j 0)=false):=by
 obtain⟨e,u0,u1,u2⟩:=chunk_sz hc h6
 have hb:=chunk_bounds H.row j
 unfold dropR
 rw[Int.toNat_natCast]
 by_cases hh:(j:Int)<2*H.half
 ·rw[if_pos hh]
  have hx:j+(sz (uS (H.row.getD j 0))).toNat≤xs.length:=by omega
  have B:=chunk_blank u0 u1 hx
  refine⟨by rw[blank_length u0 u1 hx,hl],fun q hq => ?_,by rw[B.1,e],fun _=>B.2⟩
  rw[blank_getD u0 u1 hx,if_neg (by omega),if_neg (by have:=sz_at u0 u1;omega),if_neg (by omega)]
 ·rw[if_neg hh]
  have hx:j+(chunk H.row j).toNat≤xs.length:=by omega
  refine⟨by rw[freeR_length hx (by omega),hl],fun q hq => ?_,?_,fun h=>absurd h hh⟩
  ·rw[freeR_getD hx (by omega),if_neg (by omega),if_neg (by omega),if_neg (by omega)]
  ·rw[chunk_freeR hx (by omega) (by omega)]
   omega
structure SwI (H:Hp) (L ds:List Int) (xs:List Int):Prop where
 len:xs.length=H.row.length
 same:∀q,(∀p ∈ ds,p ∉ L→q<p.toNat∨p.toNat+(chunk H.row p.toNat).toNat≤q)→xs.getD q 0=H.row.getD q 0
 gone:∀p ∈ ds,p ∉ L→chunk xs p.toNat=chunk H.row p.toNat∧(p<2*H.half→uF (xs.getD p.toNat 0)=0∧uP (xs.getD p.toNat 0)=false)
theorem apart_rising {H:Hp} {ps os:List Int} (hA:Apart H ps) (ho:∀p ∈ os,p ∈ ps) (hr:Rising os) {k:Nat} (hk:k<os.length):∀p ∈ os.take k,p.toNat+(chunk H.row p.toNat).toNat≤(os.getD k 0).toNat:=fun p hp=>by
 have hlt:=rising_take hr hk p hp
 have hm:os.getD k 0 ∈ os:=by rw[List.getD_eq_getElem?_getD,List.getElem?_eq_getElem hk];exact List.getElem_mem _
 have h1:=ho p (List.mem_of_mem_take hp)
 have h2:=ho _ hm
 obtain⟨i,rfl,hci,_⟩:=hA.nat p h1
 obtain⟨j,ej,_,_⟩:=hA.nat _ h2
 rw[ej]at hlt h2 ⊢
 have:=hA.two h1 h2 (by omega)
 rw[Int.toNat_natCast,Int.toNat_natCast]
 have hb:=chunk_bounds H.row i
 omega
theorem swI {H:Hp} {ps L os:List Int} (hA:Apart H ps) (ho:∀p ∈ os,p ∈ objL H ps) (hr:Rising os):∀k,k≤os.length→SwI H L (os.take k) (swpRow H L (os.take k)):=by
 intro k
 induction k with
 |zero=>intro _;exact⟨rfl,fun q _=>rfl,fun p hp=>by simp at hp⟩
 |succ k ih=>
  intro hk
  have I:=ih (by omega)
  have hm:os.getD k 0 ∈ os:=by rw[List.getD_eq_getElem?_getD,List.getElem?_eq_getElem (by omega)];exact List.getElem_mem _
  obtain⟨hpp,h6⟩:=objL_mem (ho _ hm)
  obtain⟨j,ej,hc,hjl⟩:=hA.nat _ hpp
  have hap:=apart_rising hA (fun p hp=>(objL_mem (ho p hp)).1) hr (k:=k) (by omega)
  have hk':k<os.length:=by omega
  have etk:os.take (k+1)=os.take k++[os.getD k 0]:=by
   rw[List.take_add_one,List.getElem?_eq_getElem hk',List.getD_eq_getElem?_getD,List.getElem?_eq_getElem hk']
   rfl
  have htk:∀p,p ∈ os.take (k+1)↔p ∈ os.take k∨p=os.getD k 0:=fun p=>by rw[etk];simp
  rw[swp_next (by omega)]
  unfold swpS
  rw[ej]at h6 hap ⊢
  rw[Int.toNat_natCast]at h6 hap
  split
  ·rename_i hL
   refine⟨I.len,fun q hq=>I.same q (fun p hp=>hq p ((htk p).2 (.inl hp))),fun p hp hpL => ?_⟩
   rcases (htk p).1 hp with hp|hp
   ·exact I.gone p hp hpL
   ·rw[hp,ej]at hpL;exact absurd hL hpL
  ·rename_i hL
   obtain⟨d1,d2,d3,d4⟩:=drop_facts I.len hc h6
   refine⟨d1,fun q hq => ?_,fun p hp hpL => ?_⟩
   ·have hj:=hq (j:Int) ((htk _).2 (.inr ej.symm)) hL
    rw[Int.toNat_natCast]at hj
    rw[d2 q hj]
    exact I.same q (fun p hp=>hq p ((htk p).2 (.inl hp)))
   ·rcases (htk p).1 hp with hp|hp
    ·obtain⟨g1,g2⟩:=I.gone p hp hpL
     have hlt:=hap p hp
     obtain⟨i,ei,hci,_⟩:=hA.nat p (objL_mem (ho p (List.mem_of_mem_take hp))).1
     rw[ei,Int.toNat_natCast]at g1 g2 hlt ⊢
     have hb:=chunk_bounds H.row i
     refine⟨?_,fun hh => ?_⟩
     ·rw[chunk_congr (d1.trans I.len.symm) (d2 i (by omega)) (d2 (i+1) (by omega)),g1]
     ·rw[d2 i (by omega)];exact g2 hh
    ·rw[hp,ej,Int.toNat_natCast]
     exact⟨d3,d4⟩
def swpC (H:Hp) (ps L:List Int):Hp:= { H with row:=coal (swpRow H L (objL H ps)) (2*H.half) (2*H.half+H.old) }
def swpF (H:Hp) (ps L:List Int):Hp:= { swpC H ps L with seen:=seenL (swpC H ps L) }
theorem swp_chunks {H:Hp} {ps L:List Int} (h:placesR H=some ps) (hr:Rising (objL H ps)):SwI H L (objL H ps) (swpRow H L (objL H ps))∧∀p ∈ ps,chunk (swpRow H L (objL H ps)) p.toNat=chunk H.row p.toNat:=by
 have hA:=apart_of h
 have I:=swI (L:=L) hA (fun p hp=>hp) hr (objL H ps).length (Nat.le_refl _)
 rw[List.take_length]at I
 refine⟨I,fun p hp => ?_⟩
 by_cases hg:p ∈ objL H ps∧p ∉ L
 ·exact (I.gone p hg.1 hg.2).1
 ·obtain⟨i,rfl,hci,_⟩:=hA.nat p hp
  rw[Int.toNat_natCast]
  have hb:=chunk_bounds H.row i
  have sm:∀q,i≤q→q<i+(chunk H.row i).toNat→(swpRow H L (objL H ps)).getD q 0=H.row.getD q 0:=fun q h1 h2=>I.same q (fun p' hp' hpL=>by
   obtain⟨j,rfl,hcj,_⟩:=hA.nat p' (objL_mem hp').1
   rw[Int.toNat_natCast]
   have hbj:=chunk_bounds H.row j
   rcases Nat.lt_trichotomy i j with hlt|rfl|hlt
   ·have:=hA.two hp (objL_mem hp').1 hlt
    omega
   ·exact absurd ⟨hp',hpL⟩ hg
   ·have:=hA.two (objL_mem hp').1 hp hlt
    omega)
  exact chunk_congr I.len (sm i (by omega) (by omega)) (sm (i+1) (by omega) (by omega))
theorem swp_places {H:Hp} {ps L:List Int} (h:placesR H=some ps) (hr:Rising (objL H ps)):∃(r u l:List Int) (F T:Nat),ps=r++u∧2*H.half=(F:Int)∧2*H.half+H.old=(T:Int)∧T≤H.row.length∧(swpRow H L (objL H ps)).length=H.row.length∧Chain (swpRow H L (objL H ps)) T F (u.map Int.toNat)∧(swpC H ps L).row=runs (swpRow H L (objL H ps)) (u.map Int.toNat) none (swpRow H L (objL H ps))∧(swpC H ps L).row.length=H.row.length∧placesR (swpC H ps L)=some (r++l)∧upW (swpC H ps L)=some l∧Nums (swpC H ps L)∧numB (swpC H ps L)=true:=by
 have hA:=apart_of h
 obtain⟨I,hch⟩:=swp_chunks (L:=L) h hr
 obtain⟨N,hz,r,u,hr0,hu0,hall,hps⟩:=places_facts h
 have hbz:hbad H=false:=by
  cases e:hbad H
  ·rfl
  ·unfold placesR at h;rw[if_pos e]at h;cases h
 have hlen:=N.len
 have hh1:=N.half1
 have ho1:=N.old1
 have hF:2*H.half=((2*hf H:Nat):Int):=by have:=N.half;omega
 have hT:2*H.half+H.old=((2*hf H+od H:Nat):Int):=by have:=N.half;have:=N.old;omega
 obtain⟨xs,hxs⟩:∃xs,swpRow H L (objL H ps)=xs:=⟨_,rfl⟩
 rw[hxs]at I hch
 have hTl:2*hf H+od H≤H.row.length:=by omega
 have wu:walkO xs (2*hf H) (2*hf H+od H)=some u:=walkO_congr hu0 (fun p hp=>hch p (by rw[hps];exact List.mem_append.2 (.inr hp)))
 have wr:walkO xs (bs H) (bs H+tp H)=some r:=walkO_congr hr0 (fun p hp=>hch p (by rw[hps];exact List.mem_append.2 (.inl hp)))
 have C:Chain xs (2*hf H+od H) (2*hf H) (u.map Int.toNat):=chain_walkL xs _ _ _ _ (by omega) wu
 obtain⟨l,hl⟩:=coal_walk C (by rw[I.len];exact hTl)
 have rlen:=runs_length xs (2*hf H+od H) (by rw[I.len];exact hTl) _ (2*hf H) none xs C rfl (fun a n e=>by cases e)
 have rlow:∀i,i<2*hf H→(runs xs (u.map Int.toNat) none xs).getD i 0=xs.getD i 0:=fun i hi=>runs_low (by rw[I.len];exact hTl) (2*hf H) i hi _ _ none xs (Nat.le_refl _) C rfl (fun a n e=>by cases e)
 have erow:coal xs (2*H.half) (2*H.half+H.old)=runs xs (u.map Int.toNat) none xs:=by
  have ro:rangeOk xs (2*H.half) (2*H.half+H.old)=true:=by
   unfold rangeOk rowOk
   rw[Bool.and_eq_true,decide_eq_true_eq,decide_eq_true_eq,I.len]
   omega
  have wk:walkR xs (2*H.half) (2*H.half+H.old)=some u:=by
   unfold walkR
   rw[if_pos ro,hT,hF,Int.toNat_natCast,Int.toNat_natCast]
   exact wu
  unfold coal walkOk walked
  rw[wk]
  simp
 have eC:(swpC H ps L).row=runs xs (u.map Int.toNat) none xs:=by
  show coal (swpRow H L (objL H ps)) _ _=_
  rw[hxs,erow]
 have hb:hbad (swpC H ps L)=hbad H:=by
  unfold hbad hb8 hb7 hb6 hb5 hb4 hb3 hb2 hb1 hb0
  rw[eC,rlen,I.len]
  rfl
 obtain⟨_,m1⟩:=walkL_apart _ _ _ _ _ hr0
 obtain⟨_,m2⟩:=walkL_apart _ _ _ _ _ hu0
 have room:=N.room
 have w1:roomW (swpC H ps L)=some r:=by
  show walkO (swpC H ps L).row (bs H) (bs H+tp H)=some r
  rw[eC]
  refine walkO_congr wr (fun p hp => ?_)
  have hq:=m1 p hp
  obtain⟨j,rfl,hcj,_⟩:=hA.nat p (by rw[hps];exact List.mem_append.2 (.inl hp))
  rw[Int.toNat_natCast]at hq ⊢
  have hbj:=chunk_bounds H.row j
  exact chunk_congr rlen (rlow j (by omega)) (rlow (j+1) (by omega))
 have w2:upW (swpC H ps L)=some l:=by
  show walkO (swpC H ps L).row (2*hf H) (2*hf H+od H)=some l
  rw[eC];exact hl
 have hal:r.all (roomOk (swpC H ps L))=true:=by
  rw[List.all_eq_true]at hall ⊢
  intro p hp
  have hpp:p ∈ ps:=by rw[hps];exact List.mem_append.2 (.inl hp)
  have h0:=hall _ hp
  have hq:=m1 p hp
  obtain⟨j,rfl,hcj,hjl⟩:=hA.nat p hpp
  have hbj:=chunk_bounds H.row j
  unfold roomOk at h0 ⊢
  rw[Int.toNat_natCast]at h0 hq ⊢
  rw[eC,rlow j (by omega)]
  by_cases hg:(j:Int) ∈ objL H ps∧(j:Int) ∉ L
  ·have g:=(I.gone _ hg.1 hg.2).2 (by omega)
   rw[Int.toNat_natCast]at g
   rw[g.1,g.2]
   rfl
  ·have e:xs.getD j 0=H.row.getD j 0:=I.same j (fun p' hp' hpL=>by
     obtain⟨i,rfl,hci,_⟩:=hA.nat p' (objL_mem hp').1
     rw[Int.toNat_natCast]
     have hbi:=chunk_bounds H.row i
     rcases Nat.lt_trichotomy i j with hlt|rfl|hlt
     ·have:=hA.two (objL_mem hp').1 hpp hlt
      omega
     ·exact absurd ⟨hp',hpL⟩ hg
     ·exact .inl hlt)
   rw[e];exact h0
 have hzz:zeroB (swpC H ps L)=true:=by
  refine zeroB_true (fun i hi => ?_)
  have hi':i<2*hf H:=hi
  have hz0:zeroAt H i=true:=by
   unfold zeroB at hz
   rw[List.all_eq_true]at hz
   exact hz i (List.mem_range.2 hi')
  show (!(decide (i<bs H) || decide (bs H+tp H≤i)) || ((swpC H ps L).row.getD i 0==0))=true
  unfold zeroAt at hz0
  by_cases hc:i<bs H∨bs H+tp H≤i
  ·rw[eC,rlow i hi',I.same i (fun p hp hpL=>by
     have hpp:=(objL_mem hp).1
     obtain⟨j,rfl,hcj,_⟩:=hA.nat p hpp
     have hbj:=chunk_bounds H.row j
     rw[Int.toNat_natCast]
     rw[hps]at hpp
     rcases List.mem_append.1 hpp with hpp|hpp
     ·have:=m1 _ hpp
      rw[Int.toNat_natCast]at this
      omega
     ·have:=m2 _ hpp
      omega)]
   exact hz0
  ·simp only[not_or,Nat.not_lt,Nat.not_le]at hc
   have d1:decide (i<bs H)=false:=decide_eq_false (by omega)
   have d2:decide (bs H+tp H≤i)=false:=decide_eq_false (by omega)
   rw[d1,d2];rfl
 refine⟨r,u,l,2*hf H,2*hf H+od H,hps,hF,hT,hTl,by rw[hxs];exact I.len,by rw[hxs];exact C,by rw[hxs];exact eC,by rw[eC,rlen,I.len],?_,w2,nums_of (hb.trans hbz),((numB_bad _).1 (hb.trans hbz)).1⟩
 unfold placesR
 rw[if_neg (by rw[hb,hbz];decide),placesB_yes hzz w1 w2 hal]
end Go.Proofs.YtocidankimefpaaGreatDoor.hp
