/-
  Chapter 15 as the program has it: is all straight?
  Made from the template SwpI7.
-/
import Derived.Test.YtocidankimefpaaGreatDoorM26
import Derived.Test.YtocidankimefpaaGreatDoorM15
import Derived.Test.YtocidankimefpaaGreatDoorM22
import Derived.Test.YtocidankimefpaaGreatDoorM31
import Derived.Test.YtocidankimefpaaGreatDoorM25
import Derived.Deep.RegionLaw
import Derived.Deep.AppendLies
namespace Go.Proofs.YtocidankimefpaaGreatDoor.hp
open Go.RowKit rows heads words walks
set_option maxRecDepth 100000
set_option linter.unusedVariables false
set_option linter.unusedSimpArgs false
theorem infoL:(Tryz.prog.info? 22).map (fun i=>(i.zero,i.size,i.bytes))=some (some (.slice none 0 0),1,24):=by kernel_rfl
structure LL (X w:World) (v:Value) (ls:List (List Int)):Prop where
 ex:∃vs:List Value,vs.length=ls.length∧w.ownsRow X.heap.size 22 1 v vs.length vs∧∀i,i<ls.length→IntsAt X (vs.getD i (.slice none 0 0)) (ls.getD i [])
theorem LL.below {X w w':World} {v:Value} {ls:List (List Int)} (h:LL X w v ls) (hb:Below w.heap.size w w'):LL X w' v ls:=by
 obtain⟨vs,h1,h2,h3⟩:=h.ex
 exact⟨vs,h1,row_ch (S:=[]) h2 (ch_below hb) (by simp),h3⟩
theorem LL.lists {X w:World} {v:Value} {ls:List (List Int)} (h:LL X w v ls) (hp:0<ls.length) (hb:Below X.heap.size X w):ListsAt w v ls:=by
 obtain⟨vs,h1,h2,h3⟩:=h.ex
 have h2':=h2
 obtain⟨_,⟨e1,e2⟩|⟨g,c,cur,e1,hg,r⟩⟩:=h2
 ·omega
 ·rw[h1]at e1
  have hlt:=(blk_lt h2' g (by rw[e1];simp[blk,Value.ownBlock])).2
  refine⟨g,c,e1,hlt,fun i hi=>⟨vs.getD i (.slice none 0 0),?_,intsAt_below (h3 i hi) hb⟩⟩
  rw[e1,h1]at h2'
  have:=World.ownsRow.cellAt h2' i (by omega)
  rw[this,List.getD_eq_getElem?_getD,List.getElem?_eq_getElem (show i<vs.length by omega)]
  rfl
def lsK (H:Hp) (ds:List Pd) (k:Nat):List (List Int):=[H.roots,H.mourned]++((ds.take k).filter (fun d => !(d.f==7))).map (slP H.row)
theorem takeP {ds:List Pd} {k:Nat} (hk:k<ds.length):ds.take (k+1)=ds.take k++[ds.getD k pdD]:=by
 rw[List.take_add_one,List.getElem?_eq_getElem hk,List.getD_eq_getElem?_getD,List.getElem?_eq_getElem hk]
 rfl
theorem lsK_note {H:Hp} {ds:List Pd} {k:Nat} (hk:k<ds.length) (h:((ds.getD k pdD).f==7)=true):lsK H ds (k+1)=lsK H ds k:=by
 have e:[ds.getD k pdD].filter (fun d => !(d.f==7))=[]:=by rw[List.filter_cons,if_neg (by rw[h];decide)];rfl
 unfold lsK
 rw[takeP hk,List.filter_append,e,List.append_nil]
theorem lsK_one {H:Hp} {ds:List Pd} {k:Nat} (hk:k<ds.length) (h:((ds.getD k pdD).f==7)=false):lsK H ds (k+1)=lsK H ds k++[slP H.row (ds.getD k pdD)]:=by
 have e:[ds.getD k pdD].filter (fun d => !(d.f==7))=[ds.getD k pdD]:=by rw[List.filter_cons,if_pos (by rw[h];rfl)];rfl
 unfold lsK
 rw[takeP hk,List.filter_append,e,List.map_append,List.append_assoc]
 rfl
theorem lsK_len (H:Hp) (ds:List Pd) (k:Nat):2≤(lsK H ds k).length∧(lsK H ds k).length≤2+ds.length:=by
 unfold lsK
 rw[List.length_append,List.length_map]
 have h1:=List.length_filter_le (fun d:Pd => !(d.f==7)) (ds.take k)
 have h2:(ds.take k).length≤ds.length:=by rw[List.length_take];omega
 simp
 omega
theorem lsK_flat {H:Hp} {ps:List Int} {ds:List Pd} (hl:ds.length=(objL H ps).length) (h:∀i,i<ds.length→∃p,(objL H ps).getD i 0=p∧((ds.getD i pdD).f==7)=ntH H p∧slP H.row (ds.getD i pdD)=slotsOf H p):(lsK H ds ds.length).flatten=strW H ps:=by
 have key:∀k,k≤ds.length→(((ds.take k).filter (fun d => !(d.f==7))).map (slP H.row)).flatten=(((objL H ps).take k).filter (fun p => !(ntH H p))).flatMap (slotsOf H):=by
  intro k
  induction k with
  |zero=>intro _;rfl
  |succ k ih=>
   intro hk
   obtain⟨p,e1,e2,e3⟩:=h k (by omega)
   have et:(objL H ps).take (k+1)=(objL H ps).take k++[p]:=by
    rw[←e1,List.take_add_one,List.getElem?_eq_getElem (by omega),List.getD_eq_getElem?_getD,List.getElem?_eq_getElem (by omega)]
    rfl
   rw[takeP (by omega),et,List.filter_append,List.filter_append,List.map_append,List.flatten_append,List.flatMap_append,ih (by omega)]
   generalize ds.getD k pdD=d at *
   congr 1
   rw[List.filter_cons,List.filter_cons,e2]
   cases ntH H p<;>simp[e3]
 have k1:=key ds.length (Nat.le_refl _)
 rw[List.take_length,hl,List.take_length]at k1
 unfold lsK strW
 rw[List.take_length,List.flatten_append,k1]
 simp
set_option maxHeartbeats 32000000 in
theorem isStraight_any {w:World} {b off c1 c2 c3 c4 c5:Nat} {a2 a3 a4 a5:Option Addr} {H:Hp} {ps:List Int} {ds:List Pd} (h:HpAt w (.slice (some ⟨b,off,none⟩) H.row.length c1) (.slice a2 H.roots.length c2) (.slice a3 H.mourned.length c3) (.slice a4 H.seen.length c4) H) (hv:RoomsAt w (.slice a5 ds.length c5) ds (slP H.row)) (hI:HpI H) (up:Int) (R:Rt H ps) (hl:ds.length=(objL H ps).length) (hob:∀i,i<ds.length→∃p,(objL H ps).getD i 0=p∧(ds.getD i pdD).pl=p∧((ds.getD i pdD).f==7)=ntH H p∧slP H.row (ds.getD i pdD)=slotsOf H p)
    (hsc:∀i,i<ds.length→∃ua un uc,IntsAt w (.slice ua un uc) (slP H.row (ds.getD i pdD))∧∀V,Calls Tryz.prog 71 #[cv (ds.getD i pdD).s (ds.getD i pdD).f (ds.getD i pdD).c (ds.getD i pdD).h (ds.getD i pdD).p (ds.getD i pdD).m (ds.getD i pdD).u] V fun e w'=>e = .returned (.slice ua un uc)∧Below V.heap.size V w') (hld:∀x ∈ strW H ps,ledB ds x=isA x) (hsum:(strW H ps).length≤100000) (hris:Rising (objL H ps)) :
    Calls Tryz.prog 33 #[hov H (.slice (some ⟨b,off,none⟩) H.row.length c1) (.slice a2 H.roots.length c2) (.slice a3 H.mourned.length c3) (.slice a4 H.seen.length c4) up (.slice a5 ds.length c5)] w fun e w'=>e = .returned (.bool (isStr H ps))∧Below w.heap.size w w':=by
 have eflat:=lsK_flat hl (fun i hi=>by obtain⟨p,q1,_,q3,q4⟩:=hob i hi;exact⟨p,q1,q3,q4⟩)
 have HEF:Hid _:=eflat
 have HIS:Hid _:=isStr_is R hris
 have HAL:Hid (AllI (strW H ps)):=by
  intro x hx
  unfold strW at hx
  rcases List.mem_append.1 hx with hx|hx
  ·rcases List.mem_append.1 hx with hx|hx
   ·exact hI.2.2.1 x hx
   ·exact hI.2.2.2.1 x hx
  ·obtain⟨p,hp,hx⟩:=List.mem_flatMap.1 hx
   unfold slotsOf at hx
   exact hI.2.1 x (List.mem_of_mem_drop (List.mem_of_mem_take hx))
 have HLN:Hid (∀V,Below w.heap.size w V→∀x ∈ strW H ps,Calls Tryz.prog 74 #[rmv up (.slice a5 ds.length c5),.int .i64 x] V fun e w'=>e = .returned (.bool (toNote H x))∧Below V.heap.size V w'):=fun V hV x hx=>by
  have hb:=HAL.out x hx
  refine leadsToNote_any (pdsAt_below hv.pds hV) hv.slices hv.rise (Nat.le_trans hv.len (by decide)) x hb.1 hb.2 (fun e => ?_) (fun e i hi hpl => ?_)
  ·rw[hld x hx]at e
   unfold toNote
   rw[e]
   rfl
  ·rw[hld x hx]at e
   obtain⟨p,_,q2,q3,_⟩:=hob i hi
   rw[q3]
   unfold toNote
   rw[e,←hpl,q2]
   rfl
 have HNT:Hid (∀(s f c h:Int) (p m:Bool) (u:Value) (V:World),Calls Tryz.prog 70 #[cv s f c h p m u] V fun e w'=>e = .returned (.bool (f==7))∧Below V.heap.size V w'):=fun s f c h p m u V=>(isNote_any s f c h p m u V).mono (fun e w' ⟨he,hw⟩=>⟨he,by rw[hw];exact (Below.refl _ _).alloc (Nat.le_refl _) _⟩)
 have HALL:Hid (∃X,X=w.alloc (hp.hob H (.slice (some ⟨b,off,none⟩) H.row.length c1) (.slice a2 H.roots.length c2) (.slice a3 H.mourned.length c3) (.slice a4 H.seen.length c4) up (.slice a5 ds.length c5))∧X.heap[w.heap.size]? = some (hp.hob H (.slice (some ⟨b,off,none⟩) H.row.length c1) (.slice a2 H.roots.length c2) (.slice a3 H.mourned.length c3) (.slice a4 H.seen.length c4) up (.slice a5 ds.length c5))∧Below w.heap.size w X∧IntsAt X (.slice a2 H.roots.length c2) H.roots∧IntsAt X (.slice a3 H.mourned.length c3) H.mourned):=by
  have B:=(Below.refl w.heap.size w).alloc (Nat.le_refl _) (hp.hob H (.slice (some ⟨b,off,none⟩) H.row.length c1) (.slice a2 H.roots.length c2) (.slice a3 H.mourned.length c3) (.slice a4 H.seen.length c4) up (.slice a5 ds.length c5))
  exact⟨_,rfl,heap_alloc_new _ _,B,intsAt_below h.2.1 B,intsAt_below h.2.2.1 B⟩
 have HRV:Hid _:=hv
 have hdl:=hv.len
 obtain⟨b0,hb0'⟩:∃b0,isStr H ps=b0:=⟨_,rfl⟩
 rw[hb0']
 have HB0:Hid _:=hb0'
 have HSC:Hid _:=hsc
 clear h hv hI R hl hob hld eflat hb0' hris hsc
 go_enter Tryz.func33,Tryz.ntmps33
 go_upto_region 1 with fail
 obtain⟨X,hX,q0,BX,IX1,IX2⟩:=HALL.out
 rw[←hX]
 clear hX HALL
 have HQ0:Hid _:=q0
 have HBX:Hid _:=BX
 have hX0:w.heap.size<X.heap.size:=lt_of_block q0
 obtain⟨⟨m0,m1,m2,m3,m4,m5,m6,m7,m8,m9,m10⟩,_⟩:=hob_cells q0
 have HL0:Hid (LL X (X.alloc (.cells #[.slice a2 H.roots.length c2,.slice a3 H.mourned.length c3] 22)) (.slice (some ⟨X.heap.size,0,none⟩) 2 2) (lsK H ds 0)):=by
  have BA:=(Below.refl X.heap.size X).alloc (Nat.le_refl _) (.cells #[.slice a2 H.roots.length c2,.slice a3 H.mourned.length c3] 22)
  refine⟨[.slice a2 H.roots.length c2,.slice a3 H.mourned.length c3],rfl,⟨rfl,.inr ⟨X.heap.size,2,#[.slice a2 H.roots.length c2,.slice a3 H.mourned.length c3],rfl,Nat.le_refl _,heap_alloc_new X _,Nat.le_refl _,by decide,rfl,rfl⟩⟩,fun i hi => ?_⟩
  have hi':i=0∨i=1:=by
   have:i<2:=hi
   omega
  rcases hi' with rfl|rfl
  ·exact IX1
  ·exact IX2
 have HBE:Hid _:=(Below.refl X.heap.size X).alloc (Nat.le_refl _) (.cells #[.slice a2 H.roots.length c2,.slice a3 H.mourned.length c3] 22)
 clear q0 BX IX1 IX2
 go_upto_region 2 with fail
 generalize X.alloc (.cells #[.slice a2 H.roots.length c2,.slice a3 H.mourned.length c3] 22)=X1 at *
 clear m0 m1 m2 m3 m4 m5 m6 m7 m8 m9 m10
 obtain⟨⟨m0,m1,m2,m3,m4,m5,m6,m7,m8,m9,m10⟩,_⟩:=hob_cells ((HBE.out.block _ hX0).trans HQ0.out)
 go_wp2_with fail
 clear m0 m1 m2 m3 m4 m5 m6 m7 m8 m9 m10
 go_loopw [3,5,17] (fun v3 _ v wr=>∃y:Nat,y≤ds.length∧v = .int .i64 (y:Int)∧∃u3,u3=v3∧LL X wr u3 (lsK H ds y)∧Below X.heap.size X wr) (fun _ _ v _=>ds.length-(intOf v).toNat)
 case atStart=>exact⟨0,Nat.zero_le _,rfl,_,rfl,HL0.out,HBE.out⟩
 case round=>
  obtain⟨y,hy,rfl,u3,rfl,hLL,hB⟩:=hrel
  clear HL0 HBE
  have HLL:Hid _:=hLL
  have HBR:Hid _:=hB
  have hszr:=hB.size
  by_cases hlt:y<ds.length
  ·have hlt':(y:Int)<(ds.length:Int):=by omega
   have HBW:Hid _:=HBX.out.trans (hB.mono HBX.out.size)
   obtain⟨_,_,ev,_,_,_,hcs⟩:=pdsAt_below HRV.out.pds HBW.out
   injection ev with ev1 _ ev3
   subst ev1 ev3
   obtain⟨mg,mo,ev4,hmg,hcell⟩:=hcs (by omega)
   subst ev4
   obtain⟨p0,p1,p2,p3,p4,p5,p6,p7⟩:=hcell y hlt
   obtain⟨ua,un,uc,hui,hucall⟩:=HSC.out y hlt
   have HUI:Hid _:=intsAt_below hui HBX.out
   have HUC:Hid _:=hucall
   have HNo:Hid _:= @lsK_note H ds y hlt
   have HOn:Hid _:= @lsK_one H ds y hlt
   obtain⟨sa,sn,sc,hsv⟩:=HRV.out.slices _ (mem_getDP hlt)
   have hLn:=lsK_len H ds y
   generalize slP H.row (ds.getD y pdD)=sly at *
   obtain⟨d,hd⟩:∃d,ds.getD y pdD=d:=⟨_,rfl⟩
   rw[hd]at p0 p1 p2 p3 p4 p5 p6 p7 HNo HOn HUC hsv
   obtain⟨es',ef,ec,eh,ep,em,eu,el⟩:=d
   simp only at p0 p1 p2 p3 p4 p5 p6 p7 hsv HNo HOn HUC
   subst hsv
   clear hB hd hcs hcell hui hucall hLL
   generalize lsK H ds y=lk at *
   obtain⟨lk2,hlk2⟩:∃lk2,lsK H ds (y+1)=lk2:=⟨_,rfl⟩
   rw[hlk2]at HNo HOn
   have HLK:Hid _:=hlk2
   clear hlk2
   go_upto_region 5 with fail
   clear p0 p1 p2 p3 p4 p5 p6 p7
   have BY:Below wr.heap.size wr (wr.alloc (pdb ⟨es',ef,ec,eh,ep,em,.slice sa sn sc,el⟩)):=(Below.refl _ _).alloc (Nat.le_refl _) _
   have HQY:Hid _:=heap_alloc_new wr (pdb ⟨es',ef,ec,eh,ep,em,.slice sa sn sc,el⟩)
   have HBY:Hid _:=HBR.out.trans (BY.mono hszr)
   have HLY:Hid _:=HLL.out.below BY
   obtain⟨⟨p0,p1,p2,p3,p4,p5,p6,p7⟩,_⟩:=pdb_cells HQY.out
   simp only at p0 p1 p2 p3 p4 p5 p6 p7
   clear BY
   generalize wr.alloc (pdb ⟨es',ef,ec,eh,ep,em,.slice sa sn sc,el⟩)=Y at *
   have hYr:wr.heap.size<Y.heap.size:=lt_of_block HQY.out
   have NT:=HNT.out es' ef ec eh ep em (.slice sa sn sc) Y
   cases hf7:(ef==7)
   ·rw[hf7]at NT
    have HE:Hid (lk2=lk++[sly]):=HOn.out hf7
    clear hf7 HNo HOn
    go_upto_region 6 with (go_at_call 70;refine NT.mono ?_;clear NT;rintro e w4 ⟨rfl,b4⟩;have HB4:Hid _:=b4;clear b4)
    clear p0 p1 p2 p3 p4 p5 p6 p7
    obtain⟨⟨p0,p1,p2,p3,p4,p5,p6,p7⟩,_⟩:=pdb_cells ((HB4.out.block _ hYr).trans HQY.out)
    simp only at p0 p1 p2 p3 p4 p5 p6 p7
    have SC:=HUC.out w4
    have HL4:Hid _:=HLY.out.below HB4.out
    have HB4x:Hid _:=HBY.out.trans (HB4.out.mono HBY.out.size)
    obtain⟨i0,hi,hz0,hz1,hz2⟩:=info_parts infoL
    have HI0:Hid _:=And.intro hi (And.intro hz0 (And.intro hz1 hz2))
    have HAFT:Hid (∀w5,Below w4.heap.size w4 w5→∃(g c:Nat) (vs:List Value),u3 = .slice (some ⟨g,0,none⟩) vs.length c∧2≤vs.length∧vs.length≤100000∧(w5.alloc (.cells #[.slice ua un uc] 22)).ownsRow X.heap.size 22 1 (.slice (some ⟨g,0,none⟩) vs.length c) vs.length vs∧X.heap.size≤(w5.alloc (.cells #[.slice ua un uc] 22)).heap.size∧(∀i u,[Value.slice ua un uc][i]? = some u→(w5.alloc (.cells #[.slice ua un uc] 22)).cell? ((⟨w5.heap.size,0,none⟩:Addr).add i)=some u)∧∀v' w6,w6.ownsRow X.heap.size 22 1 v' (vs.length+1) (vs++[.slice ua un uc])→(w5.alloc (.cells #[.slice ua un uc] 22)).grownBy w6 (some g)→(∃va vn vc,v' = .slice va vn vc)∧LL X w6 v' lk2∧Below X.heap.size X w6):=fun w5 b5=>by
     obtain⟨vs,h1,h2,h3⟩:=(HL4.out.below b5).ex
     have B6:Below X.heap.size X (w5.alloc (.cells #[.slice ua un uc] 22)):=(HB4x.out.trans (b5.mono HB4x.out.size)).alloc (Nat.le_trans HB4x.out.size b5.size) _
     have h2':=row_ch (S:=[]) h2 (ch_below ((Below.refl w5.heap.size w5).alloc (Nat.le_refl _) (.cells #[.slice ua un uc] 22))) (by simp)
     have h2k:=h2
     obtain⟨_,⟨e1,e2⟩|⟨g,c,cur,e1,hg,r⟩⟩:=h2
     ·omega
     ·rw[e1]at h2'
      refine⟨g,c,vs,e1,by omega,by omega,h2',B6.size,World.news_of_block (heap_alloc_new w5 (.cells #[.slice ua un uc] 22)),fun v' w6 o6 g6=>⟨?_,⟨vs++[.slice ua un uc],by rw[HE.out];simp[h1],by rw[List.length_append];exact o6,fun i hi => ?_⟩,?_⟩⟩
      ·obtain⟨_,⟨f1,f2⟩|⟨g',c',cur',f1,_⟩⟩:=o6
       ·omega
       ·exact⟨_,_,_,f1⟩
      ·rw[HE.out]at hi ⊢
       rw[List.length_append]at hi
       by_cases ei:i<lk.length
       ·rw[List.getD_eq_getElem?_getD,List.getElem?_append_left (by omega),←List.getD_eq_getElem?_getD,List.getD_eq_getElem?_getD (l:=lk++[sly]),List.getElem?_append_left ei,←List.getD_eq_getElem?_getD]
        exact h3 i ei
       ·have e:i=lk.length:=by simp at hi;omega
        subst e
        rw[List.getD_eq_getElem?_getD,List.getElem?_append_right (by omega),List.getD_eq_getElem?_getD (l:=lk++[sly]),List.getElem?_append_right (by omega)]
        simp[h1]
        exact HUI.out
      ·exact B6.grown g6 B6.size (fun k hk=>by injection hk with hk;omega)
    clear HL4 HLY HLL
    go_wp2_with (first
     |(go_at_call 71;refine SC.mono ?_;clear SC;rintro e w5 ⟨rfl,b5⟩;obtain⟨ag,ac,avs,eu3,hv2,hv3,hown5,hba,hnw,haft⟩:=HAFT.out w5 b5;subst eu3;have HOW:Hid _:=hown5;have HNW:Hid _:=hnw;have HAF:Hid _:=haft;clear b5 HAFT hown5 hnw haft)
     |(refine wpList_append_own_at _ rfl (.tmp 25) (.tmp 29) 112 rfl X.heap.size 22 i0 (.slice none 0 0) 1 24 Tryz.underlying112 HI0.out.1 HI0.out.2.1 HI0.out.2.2.1 HI0.out.2.2.2 rfl (by decide) (.slice (some ⟨ag,0,none⟩) avs.length ac) avs.length avs rfl HOW.out ⟨w5.heap.size,0,none⟩ 1 1 [.slice ua un uc] rfl rfl HNW.out (by simp[Value.oneCell']) (by unfold maxLen;omega) (by omega) hba ?_;intro v' w6 hown6 hgrow6 _ hat6;obtain⟨⟨va,vn,vc,rfl⟩,st⟩:=HAF.out v' w6 hown6 hgrow6;have HST:Hid _:=st;clear st hown6 hgrow6 hat6))
    exact⟨⟨y+1,by omega,by go_num,_,rfl,by rw[HLK.out];exact HST.out.1,HST.out.2⟩,by simp[intOf];omega⟩
   ·rw[hf7]at NT
    have HE:Hid (lk2=lk):=HNo.out hf7
    clear hf7 HNo HOn
    go_wp2_with (go_at_call 70;refine NT.mono ?_;clear NT;rintro e w4 ⟨rfl,b4⟩;have HB4:Hid _:=b4;clear b4)
    exact⟨⟨y+1,by omega,by go_num,_,rfl,by rw[HLK.out,HE.out];exact HLY.out.below HB4.out,HBY.out.trans (HB4.out.mono HBY.out.size)⟩,by simp[intOf];omega⟩
  ·have hlt':¬(y:Int)<(ds.length:Int):=by omega
   have e:y=ds.length:=by omega
   subst e
   have hLn:=lsK_len H ds ds.length
   have HCC:Hid (∀V,Below wr.heap.size wr V→Calls Tryz.prog 73 #[u3] V fun e w'=>∃v',e = .returned v'∧rows.Own w' V.heap.size v' (strW H ps)∧Below V.heap.size V w'):=fun V hV=>by
    have LA:=(HLL.out.below hV).lists (by omega) (HBR.out.trans (hV.mono hszr))
    have CC:=concatI_any LA (by omega) (by rw[HEF.out];exact hsum)
    rw[HEF.out]at CC
    exact CC
   obtain⟨⟨m0,m1,m2,m3,m4,m5,m6,m7,m8,m9,m10⟩,_⟩:=hob_cells ((hB.block _ hX0).trans HQ0.out)
   have HCF:Hid (∀V v',Below wr.heap.size wr V→IntsAt V v' (strW H ps)→Calls Tryz.prog 72 #[v',.func (.func 74) #[rmv up (.slice a5 ds.length c5)] #[]] V fun e w'=>e = .returned (.bool (!b0))∧Below V.heap.size V w'):=fun V v' hV hI'=>by
    have C:=containsNote_any (up:=up) (tn:=toNote H) (a:=a5) (n:=ds.length) (c:=c5) hI' (by omega) (fun V' hV' x hx=>HLN.out V' (HBX.out.trans (((HBR.out.trans (hV.mono hszr)).trans (hV'.mono (Nat.le_trans hszr hV.size))).mono HBX.out.size)) x hx)
    have e:(strW H ps).any (toNote H) = !b0:=by
     rw[←HB0.out,HIS.out]
     simp
    rw[e]at C
    exact C
   clear hLL hB
   generalize strW H ps=sw at *
   go_upto_region 8 with fail
   go_region_law (first
    |(go_simp;go_at_call 73;refine Calls.mono (HCC.out _ (Below.refl _ _).drew) ?_;clear HCC;rintro e w6 ⟨v6,rfl,o6,b6⟩;have HO6:Hid _:=own_ints o6;obtain⟨va,vn,vc,rfl⟩:=ints_slice (own_ints o6);have HB6:Hid (Below wr.heap.size wr w6):=⟨b6.os,b6.tape,b6.output,b6.size,b6.block⟩;obtain⟨⟨m0,m1,m2,m3,m4,m5,m6,m7,m8,m9,m10⟩,_⟩:=hob_cells (((HBR.out.trans (HB6.out.mono hszr)).block _ hX0).trans HQ0.out);clear o6 b6)
    |(go_simp;go_at_call 72;refine (HCF.out _ _ HB6.out HO6.out).mono ?_;clear HCF;rintro e w7 ⟨rfl,b7⟩;have HB7:Hid _:=HB6.out.trans (b7.mono HB6.out.size);clear b7))
   all_goals go_wp2
   all_goals go_ret
   all_goals exact⟨by cases b0<;>rfl,HBX.out.trans (((HBR.out.trans (HB7.out.mono hszr))).mono HBX.out.size)⟩
end Go.Proofs.YtocidankimefpaaGreatDoor.hp
