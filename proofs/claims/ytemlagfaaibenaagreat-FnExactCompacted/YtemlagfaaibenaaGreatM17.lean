/-
  Chapter 15 as the program has it: is all straight? Chapter 15 as the program has it: what isStraight wants of a right heap. Chapter 15 as the program has it: is there a note upstairs? Chapter 15 as the program has it: movesUpstairs. Chapter 15 as the program has it: pushTogether. Chapter 12 as the p
-/
import Derived.Test.YtemlagfaaibenaaGreatM14
import Derived.Test.YtemlagfaaibenaaGreatM7
import Derived.Test.YtemlagfaaibenaaGreatM12
import Derived.Test.YtemlagfaaibenaaGreatM16
import Derived.Deep.RegionLaw
import Derived.Deep.AppendLies
import Derived.Test.YtemlagfaaibenaaGreatM13
import Derived.Test.YtemlagfaaibenaaGreatSwpI4
import Derived.Test.YtemlagfaaibenaaGreatM1
import Derived.Test.YtemlagfaaibenaaGreatM2
import Derived.BigQuiet
import Derived.Test.YtemlagfaaibenaaGreatM15
namespace Go.Proofs.YtemlagfaaibenaaGreat.hp
open Go.RowKit rows heads words walks
set_option maxRecDepth 100000
set_option linter.unusedVariables false
set_option linter.unusedSimpArgs false
theorem infoL:(Tryz.prog.info? 22).map (fun i=>(i.zero,i.size,i.bytes))=some (some (.slice none 0 0),1,24):=by kernel_rfl
structure LL (X w:World) (v:Value) (ls:List (List Int)):Prop where
 ex:∃vs:List Value,vs.length=ls.length∧w.ownsRow X.heap.size 22 1 v vs.length vs∧∀i,i<ls.length→IntsAt X (vs.getD i (.slice none 0 0)) (ls.getD i [])
theorem LL.below {X w w':World} {v:Value} {ls:List (List Int)} (h:LL X w v ls) (hb:Below w.heap.size w w'):LL X w' v ls:=by
 obtain⟨vs,h1,h2,h3⟩:=h.ex
 exact⟨vs,h1,row_ch (S:=[]) h2 (ch_below hb) (by simp),h3⟩
theorem LL.lists {X w:World} {v:Value} {ls:List (List Int)} (h:LL X w v ls) (hp:0<ls.length) (hb:Below X.heap.size X w):ListsAt w v ls:=by
 obtain⟨vs,h1,h2,h3⟩:=h.ex
 have h2':=h2
 obtain⟨_,⟨e1,e2⟩|⟨g,c,cur,e1,hg,r⟩⟩:=h2
 ·omega
 ·rw[h1]at e1
  have hlt:=(blk_lt h2' g (by rw[e1];simp[blk,Value.ownBlock])).2
  refine⟨g,c,e1,hlt,fun i hi=>⟨vs.getD i (.slice none 0 0),?_,intsAt_below (h3 i hi) hb⟩⟩
  rw[e1,h1]at h2'
  have:=World.ownsRow.cellAt h2' i (by omega)
  rw[this,List.getD_eq_getElem?_getD,List.getElem?_eq_getElem (show i<vs.length by omega)]
  rfl
def lsK (H:Hp) (ds:List Pd) (k:Nat):List (List Int):=[H.roots,H.mourned]++((ds.take k).filter (fun d => !(d.f==7))).map (slP H.row)
theorem takeP {ds:List Pd} {k:Nat} (hk:k<ds.length):ds.take (k+1)=ds.take k++[ds.getD k pdD]:=by
 rw[List.take_add_one,List.getElem?_eq_getElem hk,List.getD_eq_getElem?_getD,List.getElem?_eq_getElem hk]
 rfl
theorem lsK_note {H:Hp} {ds:List Pd} {k:Nat} (hk:k<ds.length) (h:((ds.getD k pdD).f==7)=true):lsK H ds (k+1)=lsK H ds k:=by
 have e:[ds.getD k pdD].filter (fun d => !(d.f==7))=[]:=by rw[List.filter_cons,if_neg (by rw[h];decide)];rfl
 unfold lsK
 rw[takeP hk,List.filter_append,e,List.append_nil]
theorem lsK_one {H:Hp} {ds:List Pd} {k:Nat} (hk:k<ds.length) (h:((ds.getD k pdD).f==7)=false):lsK H ds (k+1)=lsK H ds k++[slP H.row (ds.getD k pdD)]:=by
 have e:[ds.getD k pdD].filter (fun d => !(d.f==7))=[ds.getD k pdD]:=by rw[List.filter_cons,if_pos (by rw[h];rfl)];rfl
 unfold lsK
 rw[takeP hk,List.filter_append,e,List.map_append,List.append_assoc]
 rfl
theorem lsK_len (H:Hp) (ds:List Pd) (k:Nat):2≤(lsK H ds k).length∧(lsK H ds k).length≤2+ds.length:=by
 unfold lsK
 rw[List.length_append,List.length_map]
 have h1:=List.length_filter_le (fun d:Pd => !(d.f==7)) (ds.take k)
 have h2:(ds.take k).length≤ds.length:=by rw[List.length_take];omega
 simp
 omega
theorem lsK_flat {H:Hp} {ps:List Int} {ds:List Pd} (hl:ds.length=(objL H ps).length) (h:∀i,i<ds.length→∃p,(objL H ps).getD i 0=p∧((ds.getD i pdD).f==7)=ntH H p∧slP H.row (ds.getD i pdD)=slotsOf H p):(lsK H ds ds.length).flatten=strW H ps:=by
 have key:∀k,k≤ds.length→(((ds.take k).filter (fun d => !(d.f==7))).map (slP H.row)).flatten=(((objL H ps).take k).filter (fun p => !(ntH H p))).flatMap (slotsOf H):=by
  intro k
  induction k with
  |zero=>intro _;rfl
  |succ k ih=>
   intro hk
   obtain⟨p,e1,e2,e3⟩:=h k (by omega)
   have et:(objL H ps).take (k+1)=(objL H ps).take k++[p]:=by
    rw[←e1,List.take_add_one,List.getElem?_eq_getElem (by omega),List.getD_eq_getElem?_getD,List.getElem?_eq_getElem (by omega)]
    rfl
   rw[takeP (by omega),et,List.filter_append,List.filter_append,List.map_append,List.flatten_append,List.flatMap_append,ih (by omega)]
   generalize ds.getD k pdD=d at *
   congr 1
   rw[List.filter_cons,List.filter_cons,e2]
   cases ntH H p<;>simp[e3]
 have k1:=key ds.length (Nat.le_refl _)
 rw[List.take_length,hl,List.take_length]at k1
 unfold lsK strW
 rw[List.take_length,List.flatten_append,k1]
 simp
set_option maxHeartbeats 32000000 in
theorem isStraight_any {w:World} {b off c1 c2 c3 c4 c5:Nat} {a2 a3 a4 a5:Option Addr} {H:Hp} {ps:List Int} {ds:List Pd} (h:HpAt w (.slice (some ⟨b,off,none⟩) H.row.length c1) (.slice a2 H.roots.length c2) (.slice a3 H.mourned.length c3) (.slice a4 H.seen.length c4) H) (hv:RoomsAt w (.slice a5 ds.length c5) ds (slP H.row)) (hI:HpI H) (up:Int) (R:Rt H ps) (hl:ds.length=(objL H ps).length) (hob:∀i,i<ds.length→∃p,(objL H ps).getD i 0=p∧(ds.getD i pdD).pl=p∧((ds.getD i pdD).f==7)=ntH H p∧slP H.row (ds.getD i pdD)=slotsOf H p)
    (hsc:∀i,i<ds.length→∃ua un uc,IntsAt w (.slice ua un uc) (slP H.row (ds.getD i pdD))∧∀V,Calls Tryz.prog 63 #[cv (ds.getD i pdD).s (ds.getD i pdD).f (ds.getD i pdD).c (ds.getD i pdD).h (ds.getD i pdD).p (ds.getD i pdD).m (ds.getD i pdD).u] V fun e w'=>e = .returned (.slice ua un uc)∧Below V.heap.size V w') (hld:∀x ∈ strW H ps,ledB ds x=isA x) (hsum:(strW H ps).length≤100000) (hris:Rising (objL H ps)) :
    Calls Tryz.prog 30 #[hov H (.slice (some ⟨b,off,none⟩) H.row.length c1) (.slice a2 H.roots.length c2) (.slice a3 H.mourned.length c3) (.slice a4 H.seen.length c4) up (.slice a5 ds.length c5)] w fun e w'=>e = .returned (.bool (isStr H ps))∧Below w.heap.size w w':=by
 have eflat:=lsK_flat hl (fun i hi=>by obtain⟨p,q1,_,q3,q4⟩:=hob i hi;exact⟨p,q1,q3,q4⟩)
 have HEF:Hid _:=eflat
 have HIS:Hid _:=isStr_is R hris
 have HAL:Hid (AllI (strW H ps)):=by
  intro x hx
  unfold strW at hx
  rcases List.mem_append.1 hx with hx|hx
  ·rcases List.mem_append.1 hx with hx|hx
   ·exact hI.2.2.1 x hx
   ·exact hI.2.2.2.1 x hx
  ·obtain⟨p,hp,hx⟩:=List.mem_flatMap.1 hx
   unfold slotsOf at hx
   exact hI.2.1 x (List.mem_of_mem_drop (List.mem_of_mem_take hx))
 have HLN:Hid (∀V,Below w.heap.size w V→∀x ∈ strW H ps,Calls Tryz.prog 66 #[rmv up (.slice a5 ds.length c5),.int .i64 x] V fun e w'=>e = .returned (.bool (toNote H x))∧Below V.heap.size V w'):=fun V hV x hx=>by
  have hb:=HAL.out x hx
  refine leadsToNote_any (pdsAt_below hv.pds hV) hv.slices hv.rise (Nat.le_trans hv.len (by decide)) x hb.1 hb.2 (fun e => ?_) (fun e i hi hpl => ?_)
  ·rw[hld x hx]at e
   unfold toNote
   rw[e]
   rfl
  ·rw[hld x hx]at e
   obtain⟨p,_,q2,q3,_⟩:=hob i hi
   rw[q3]
   unfold toNote
   rw[e,←hpl,q2]
   rfl
 have HNT:Hid (∀(s f c h:Int) (p m:Bool) (u:Value) (V:World),Calls Tryz.prog 62 #[cv s f c h p m u] V fun e w'=>e = .returned (.bool (f==7))∧Below V.heap.size V w'):=fun s f c h p m u V=>(isNote_any s f c h p m u V).mono (fun e w' ⟨he,hw⟩=>⟨he,by rw[hw];exact (Below.refl _ _).alloc (Nat.le_refl _) _⟩)
 have HALL:Hid (∃X,X=w.alloc (hp.hob H (.slice (some ⟨b,off,none⟩) H.row.length c1) (.slice a2 H.roots.length c2) (.slice a3 H.mourned.length c3) (.slice a4 H.seen.length c4) up (.slice a5 ds.length c5))∧X.heap[w.heap.size]? = some (hp.hob H (.slice (some ⟨b,off,none⟩) H.row.length c1) (.slice a2 H.roots.length c2) (.slice a3 H.mourned.length c3) (.slice a4 H.seen.length c4) up (.slice a5 ds.length c5))∧Below w.heap.size w X∧IntsAt X (.slice a2 H.roots.length c2) H.roots∧IntsAt X (.slice a3 H.mourned.length c3) H.mourned):=by
  have B:=(Below.refl w.heap.size w).alloc (Nat.le_refl _) (hp.hob H (.slice (some ⟨b,off,none⟩) H.row.length c1) (.slice a2 H.roots.length c2) (.slice a3 H.mourned.length c3) (.slice a4 H.seen.length c4) up (.slice a5 ds.length c5))
  exact⟨_,rfl,heap_alloc_new _ _,B,intsAt_below h.2.1 B,intsAt_below h.2.2.1 B⟩
 have HRV:Hid _:=hv
 have hdl:=hv.len
 obtain⟨b0,hb0'⟩:∃b0,isStr H ps=b0:=⟨_,rfl⟩
 rw[hb0']
 have HB0:Hid _:=hb0'
 have HSC:Hid _:=hsc
 clear h hv hI R hl hob hld eflat hb0' hris hsc
 go_enter Tryz.func30,Tryz.ntmps30
 go_upto_region 1 with fail
 obtain⟨X,hX,q0,BX,IX1,IX2⟩:=HALL.out
 rw[←hX]
 clear hX HALL
 have HQ0:Hid _:=q0
 have HBX:Hid _:=BX
 have hX0:w.heap.size<X.heap.size:=lt_of_block q0
 obtain⟨⟨m0,m1,m2,m3,m4,m5,m6,m7,m8,m9,m10⟩,_⟩:=hob_cells q0
 have HL0:Hid (LL X (X.alloc (.cells #[.slice a2 H.roots.length c2,.slice a3 H.mourned.length c3] 22)) (.slice (some ⟨X.heap.size,0,none⟩) 2 2) (lsK H ds 0)):=by
  have BA:=(Below.refl X.heap.size X).alloc (Nat.le_refl _) (.cells #[.slice a2 H.roots.length c2,.slice a3 H.mourned.length c3] 22)
  refine⟨[.slice a2 H.roots.length c2,.slice a3 H.mourned.length c3],rfl,⟨rfl,.inr ⟨X.heap.size,2,#[.slice a2 H.roots.length c2,.slice a3 H.mourned.length c3],rfl,Nat.le_refl _,heap_alloc_new X _,Nat.le_refl _,by decide,rfl,rfl⟩⟩,fun i hi => ?_⟩
  have hi':i=0∨i=1:=by
   have:i<2:=hi
   omega
  rcases hi' with rfl|rfl
  ·exact IX1
  ·exact IX2
 have HBE:Hid _:=(Below.refl X.heap.size X).alloc (Nat.le_refl _) (.cells #[.slice a2 H.roots.length c2,.slice a3 H.mourned.length c3] 22)
 clear q0 BX IX1 IX2
 go_upto_region 2 with fail
 generalize X.alloc (.cells #[.slice a2 H.roots.length c2,.slice a3 H.mourned.length c3] 22)=X1 at *
 clear m0 m1 m2 m3 m4 m5 m6 m7 m8 m9 m10
 obtain⟨⟨m0,m1,m2,m3,m4,m5,m6,m7,m8,m9,m10⟩,_⟩:=hob_cells ((HBE.out.block _ hX0).trans HQ0.out)
 go_wp2_with fail
 clear m0 m1 m2 m3 m4 m5 m6 m7 m8 m9 m10
 go_loopw [3,5,17] (fun v3 _ v wr=>∃y:Nat,y≤ds.length∧v = .int .i64 (y:Int)∧∃u3,u3=v3∧LL X wr u3 (lsK H ds y)∧Below X.heap.size X wr) (fun _ _ v _=>ds.length-(intOf v).toNat)
 case atStart=>exact⟨0,Nat.zero_le _,rfl,_,rfl,HL0.out,HBE.out⟩
 case round=>
  obtain⟨y,hy,rfl,u3,rfl,hLL,hB⟩:=hrel
  clear HL0 HBE
  have HLL:Hid _:=hLL
  have HBR:Hid _:=hB
  have hszr:=hB.size
  by_cases hlt:y<ds.length
  ·have hlt':(y:Int)<(ds.length:Int):=by omega
   have HBW:Hid _:=HBX.out.trans (hB.mono HBX.out.size)
   obtain⟨_,_,ev,_,_,_,hcs⟩:=pdsAt_below HRV.out.pds HBW.out
   injection ev with ev1 _ ev3
   subst ev1 ev3
   obtain⟨mg,mo,ev4,hmg,hcell⟩:=hcs (by omega)
   subst ev4
   obtain⟨p0,p1,p2,p3,p4,p5,p6,p7⟩:=hcell y hlt
   obtain⟨ua,un,uc,hui,hucall⟩:=HSC.out y hlt
   have HUI:Hid _:=intsAt_below hui HBX.out
   have HUC:Hid _:=hucall
   have HNo:Hid _:= @lsK_note H ds y hlt
   have HOn:Hid _:= @lsK_one H ds y hlt
   obtain⟨sa,sn,sc,hsv⟩:=HRV.out.slices _ (mem_getDP hlt)
   have hLn:=lsK_len H ds y
   generalize slP H.row (ds.getD y pdD)=sly at *
   obtain⟨d,hd⟩:∃d,ds.getD y pdD=d:=⟨_,rfl⟩
   rw[hd]at p0 p1 p2 p3 p4 p5 p6 p7 HNo HOn HUC hsv
   obtain⟨es',ef,ec,eh,ep,em,eu,el⟩:=d
   simp only at p0 p1 p2 p3 p4 p5 p6 p7 hsv HNo HOn HUC
   subst hsv
   clear hB hd hcs hcell hui hucall hLL
   generalize lsK H ds y=lk at *
   obtain⟨lk2,hlk2⟩:∃lk2,lsK H ds (y+1)=lk2:=⟨_,rfl⟩
   rw[hlk2]at HNo HOn
   have HLK:Hid _:=hlk2
   clear hlk2
   go_upto_region 5 with fail
   clear p0 p1 p2 p3 p4 p5 p6 p7
   have BY:Below wr.heap.size wr (wr.alloc (pdb ⟨es',ef,ec,eh,ep,em,.slice sa sn sc,el⟩)):=(Below.refl _ _).alloc (Nat.le_refl _) _
   have HQY:Hid _:=heap_alloc_new wr (pdb ⟨es',ef,ec,eh,ep,em,.slice sa sn sc,el⟩)
   have HBY:Hid _:=HBR.out.trans (BY.mono hszr)
   have HLY:Hid _:=HLL.out.below BY
   obtain⟨⟨p0,p1,p2,p3,p4,p5,p6,p7⟩,_⟩:=pdb_cells HQY.out
   simp only at p0 p1 p2 p3 p4 p5 p6 p7
   clear BY
   generalize wr.alloc (pdb ⟨es',ef,ec,eh,ep,em,.slice sa sn sc,el⟩)=Y at *
   have hYr:wr.heap.size<Y.heap.size:=lt_of_block HQY.out
   have NT:=HNT.out es' ef ec eh ep em (.slice sa sn sc) Y
   cases hf7:(ef==7)
   ·rw[hf7]at NT
    have HE:Hid (lk2=lk++[sly]):=HOn.out hf7
    clear hf7 HNo HOn
    go_upto_region 6 with (go_at_call 62;refine NT.mono ?_;clear NT;rintro e w4 ⟨rfl,b4⟩;have HB4:Hid _:=b4;clear b4)
    clear p0 p1 p2 p3 p4 p5 p6 p7
    obtain⟨⟨p0,p1,p2,p3,p4,p5,p6,p7⟩,_⟩:=pdb_cells ((HB4.out.block _ hYr).trans HQY.out)
    simp only at p0 p1 p2 p3 p4 p5 p6 p7
    have SC:=HUC.out w4
    have HL4:Hid _:=HLY.out.below HB4.out
    have HB4x:Hid _:=HBY.out.trans (HB4.out.mono HBY.out.size)
    obtain⟨i0,hi,hz0,hz1,hz2⟩:=info_parts infoL
    have HI0:Hid _:=And.intro hi (And.intro hz0 (And.intro hz1 hz2))
    have HAFT:Hid (∀w5,Below w4.heap.size w4 w5→∃(g c:Nat) (vs:List Value),u3 = .slice (some ⟨g,0,none⟩) vs.length c∧2≤vs.length∧vs.length≤100000∧(w5.alloc (.cells #[.slice ua un uc] 22)).ownsRow X.heap.size 22 1 (.slice (some ⟨g,0,none⟩) vs.length c) vs.length vs∧X.heap.size≤(w5.alloc (.cells #[.slice ua un uc] 22)).heap.size∧(∀i u,[Value.slice ua un uc][i]? = some u→(w5.alloc (.cells #[.slice ua un uc] 22)).cell? ((⟨w5.heap.size,0,none⟩:Addr).add i)=some u)∧∀v' w6,w6.ownsRow X.heap.size 22 1 v' (vs.length+1) (vs++[.slice ua un uc])→(w5.alloc (.cells #[.slice ua un uc] 22)).grownBy w6 (some g)→(∃va vn vc,v' = .slice va vn vc)∧LL X w6 v' lk2∧Below X.heap.size X w6):=fun w5 b5=>by
     obtain⟨vs,h1,h2,h3⟩:=(HL4.out.below b5).ex
     have B6:Below X.heap.size X (w5.alloc (.cells #[.slice ua un uc] 22)):=(HB4x.out.trans (b5.mono HB4x.out.size)).alloc (Nat.le_trans HB4x.out.size b5.size) _
     have h2':=row_ch (S:=[]) h2 (ch_below ((Below.refl w5.heap.size w5).alloc (Nat.le_refl _) (.cells #[.slice ua un uc] 22))) (by simp)
     have h2k:=h2
     obtain⟨_,⟨e1,e2⟩|⟨g,c,cur,e1,hg,r⟩⟩:=h2
     ·omega
     ·rw[e1]at h2'
      refine⟨g,c,vs,e1,by omega,by omega,h2',B6.size,World.news_of_block (heap_alloc_new w5 (.cells #[.slice ua un uc] 22)),fun v' w6 o6 g6=>⟨?_,⟨vs++[.slice ua un uc],by rw[HE.out];simp[h1],by rw[List.length_append];exact o6,fun i hi => ?_⟩,?_⟩⟩
      ·obtain⟨_,⟨f1,f2⟩|⟨g',c',cur',f1,_⟩⟩:=o6
       ·omega
       ·exact⟨_,_,_,f1⟩
      ·rw[HE.out]at hi ⊢
       rw[List.length_append]at hi
       by_cases ei:i<lk.length
       ·rw[List.getD_eq_getElem?_getD,List.getElem?_append_left (by omega),←List.getD_eq_getElem?_getD,List.getD_eq_getElem?_getD (l:=lk++[sly]),List.getElem?_append_left ei,←List.getD_eq_getElem?_getD]
        exact h3 i ei
       ·have e:i=lk.length:=by simp at hi;omega
        subst e
        rw[List.getD_eq_getElem?_getD,List.getElem?_append_right (by omega),List.getD_eq_getElem?_getD (l:=lk++[sly]),List.getElem?_append_right (by omega)]
        simp[h1]
        exact HUI.out
      ·exact B6.grown g6 B6.size (fun k hk=>by injection hk with hk;omega)
    clear HL4 HLY HLL
    go_wp2_with (first
     |(go_at_call 63;refine SC.mono ?_;clear SC;rintro e w5 ⟨rfl,b5⟩;obtain⟨ag,ac,avs,eu3,hv2,hv3,hown5,hba,hnw,haft⟩:=HAFT.out w5 b5;subst eu3;have HOW:Hid _:=hown5;have HNW:Hid _:=hnw;have HAF:Hid _:=haft;clear b5 HAFT hown5 hnw haft)
     |(refine wpList_append_own_at _ rfl (.tmp 25) (.tmp 29) 85 rfl X.heap.size 22 i0 (.slice none 0 0) 1 24 Tryz.underlying85 HI0.out.1 HI0.out.2.1 HI0.out.2.2.1 HI0.out.2.2.2 rfl (by decide) (.slice (some ⟨ag,0,none⟩) avs.length ac) avs.length avs rfl HOW.out ⟨w5.heap.size,0,none⟩ 1 1 [.slice ua un uc] rfl rfl HNW.out (by simp[Value.oneCell']) (by unfold maxLen;omega) (by omega) hba ?_;intro v' w6 hown6 hgrow6 _ hat6;obtain⟨⟨va,vn,vc,rfl⟩,st⟩:=HAF.out v' w6 hown6 hgrow6;have HST:Hid _:=st;clear st hown6 hgrow6 hat6))
    exact⟨⟨y+1,by omega,by go_num,_,rfl,by rw[HLK.out];exact HST.out.1,HST.out.2⟩,by simp[intOf];omega⟩
   ·rw[hf7]at NT
    have HE:Hid (lk2=lk):=HNo.out hf7
    clear hf7 HNo HOn
    go_wp2_with (go_at_call 62;refine NT.mono ?_;clear NT;rintro e w4 ⟨rfl,b4⟩;have HB4:Hid _:=b4;clear b4)
    exact⟨⟨y+1,by omega,by go_num,_,rfl,by rw[HLK.out,HE.out];exact HLY.out.below HB4.out,HBY.out.trans (HB4.out.mono HBY.out.size)⟩,by simp[intOf];omega⟩
  ·have hlt':¬(y:Int)<(ds.length:Int):=by omega
   have e:y=ds.length:=by omega
   subst e
   have hLn:=lsK_len H ds ds.length
   have HCC:Hid (∀V,Below wr.heap.size wr V→Calls Tryz.prog 65 #[u3] V fun e w'=>∃v',e = .returned v'∧rows.Own w' V.heap.size v' (strW H ps)∧Below V.heap.size V w'):=fun V hV=>by
    have LA:=(HLL.out.below hV).lists (by omega) (HBR.out.trans (hV.mono hszr))
    have CC:=concatI_any LA (by omega) (by rw[HEF.out];exact hsum)
    rw[HEF.out]at CC
    exact CC
   obtain⟨⟨m0,m1,m2,m3,m4,m5,m6,m7,m8,m9,m10⟩,_⟩:=hob_cells ((hB.block _ hX0).trans HQ0.out)
   have HCF:Hid (∀V v',Below wr.heap.size wr V→IntsAt V v' (strW H ps)→Calls Tryz.prog 64 #[v',.func (.func 66) #[rmv up (.slice a5 ds.length c5)] #[]] V fun e w'=>e = .returned (.bool (!b0))∧Below V.heap.size V w'):=fun V v' hV hI'=>by
    have C:=containsNote_any (up:=up) (tn:=toNote H) (a:=a5) (n:=ds.length) (c:=c5) hI' (by omega) (fun V' hV' x hx=>HLN.out V' (HBX.out.trans (((HBR.out.trans (hV.mono hszr)).trans (hV'.mono (Nat.le_trans hszr hV.size))).mono HBX.out.size)) x hx)
    have e:(strW H ps).any (toNote H) = !b0:=by
     rw[←HB0.out,HIS.out]
     simp
    rw[e]at C
    exact C
   clear hLL hB
   generalize strW H ps=sw at *
   go_upto_region 8 with fail
   go_region_law (first
    |(go_simp;go_at_call 65;refine Calls.mono (HCC.out _ (Below.refl _ _).drew) ?_;clear HCC;rintro e w6 ⟨v6,rfl,o6,b6⟩;have HO6:Hid _:=own_ints o6;obtain⟨va,vn,vc,rfl⟩:=ints_slice (own_ints o6);have HB6:Hid (Below wr.heap.size wr w6):=⟨b6.os,b6.tape,b6.output,b6.size,b6.block⟩;obtain⟨⟨m0,m1,m2,m3,m4,m5,m6,m7,m8,m9,m10⟩,_⟩:=hob_cells (((HBR.out.trans (HB6.out.mono hszr)).block _ hX0).trans HQ0.out);clear o6 b6)
    |(go_simp;go_at_call 64;refine (HCF.out _ _ HB6.out HO6.out).mono ?_;clear HCF;rintro e w7 ⟨rfl,b7⟩;have HB7:Hid _:=HB6.out.trans (b7.mono HB6.out.size);clear b7))
   all_goals go_wp2
   all_goals go_ret
   all_goals exact⟨by cases b0<;>rfl,HBX.out.trans (((HBR.out.trans (HB7.out.mono hszr))).mono HBX.out.size)⟩
theorem slots_there {w:World} {b off cap:Nat} {xs:List Int} (hx:IntsAt w (.slice (some ⟨b,off,none⟩) xs.length cap) xs) (hl:xs.length≤1000) {d:Pd} (hd:InRow (some ⟨b,off,none⟩) xs d) :
    ∃ua un uc,IntsAt w (.slice ua un uc) (slP xs d)∧∀V,Calls Tryz.prog 63 #[cv d.s d.f d.c d.h d.p d.m d.u] V fun e w'=>e = .returned (.slice ua un uc)∧Below V.heap.size V w':=by
 have hsl:=inRow_slots hd
 obtain⟨j,rfl,hc,h6⟩:=hd
 have q:=chunk_fits hc h6
 have eu:(pdOf (some ⟨b,off,none⟩) xs j).u = .slice (some ⟨b,off+j,none⟩) (chunk xs j).toNat (chunk xs j).toNat:=piece_at b off j _ (by omega)
 rw[eu]
 have hn:(if uF (xs.getD j 0)=7 then 1 else uS (xs.getD j 0))=((cnP (pdOf (some ⟨b,off,none⟩) xs j):Nat):Int):=by
  rw[cnP_of]
  by_cases h7:uF (xs.getD j 0)=7
  ·rw[if_pos h7];first|rw[if_pos h7];rfl|omega
  ·rw[if_neg h7];first|(rw[if_neg h7];omega)|omega
 have hle:1+cnP (pdOf (some ⟨b,off,none⟩) xs j)≤(chunk xs j).toNat:=by
  rw[cnP_of]
  by_cases h7:uF (xs.getD j 0)=7
  ·rw[if_pos h7];first|rw[if_pos h7];rfl|omega
  ·rw[if_neg h7];first|(rw[if_neg h7];omega)|omega
 have hp:IntsAt w (piece (some ⟨b,off+j,none⟩) 1 (cnP (pdOf (some ⟨b,off,none⟩) xs j))) (slP xs (pdOf (some ⟨b,off,none⟩) xs j)):=by
  unfold slP
  have hj:(pdOf (some ⟨b,off,none⟩) xs j).pl.toNat=j:=by simp[pdOf]
  rw[hj]at hsl ⊢
  by_cases h0:cnP (pdOf (some ⟨b,off,none⟩) xs j)=0
  ·rw[h0,piece_none,List.take_zero]
   exact⟨some ⟨b,off+j,none⟩,0,rfl,by simp,by decide,fun _=>rfl,fun h=>by simp at h⟩
  ·rw[piece_at b (off+j) 1 _ (by omega)]
   have:=piece_is hx (by omega) (j+1) (cnP (pdOf (some ⟨b,off,none⟩) xs j)) (by omega)
   rw[piece_at b off (j+1) _ (by omega)]at this
   rwa [show off+j+1=off+(j+1) by omega]
 exact⟨_,_,_,hp,fun V=>slots_any _ _ _ _ _ _ b (off+j) (chunk xs j).toNat (cnP (pdOf (some ⟨b,off,none⟩) xs j)) V (by omega) hn hle⟩
theorem strW_in {H:Hp} {ps:List Int} (R:Rt H ps):∀x ∈ strW H ps,wordIn H ps x=true:=fun x hx=>by
 unfold strW at hx
 rcases List.mem_append.1 hx with hx|hx
 ·exact R.root_in hx
 ·obtain⟨p,hp,hx⟩:=List.mem_flatMap.1 hx
  have hp1:=(List.mem_filter.1 hp).1
  exact R.slot_in (List.mem_filter.1 hp1).1 hx
theorem straight_of {w:World} {b off c1 c2 c3 c4 c5:Nat} {a2 a3 a4 a5:Option Addr} {H:Hp} {ps:List Int} (dr:heapOk H=true) (hro:roomB (some ⟨b,off,none⟩) H=true) (FP:FolP H ps (objsP (some ⟨b,off,none⟩) H) (slP H.row)) (h:HpAt w (.slice (some ⟨b,off,none⟩) H.row.length c1) (.slice a2 H.roots.length c2) (.slice a3 H.mourned.length c3) (.slice a4 H.seen.length c4) H) (hv:RoomsAt w (.slice a5 (objsP (some ⟨b,off,none⟩) H).length c5) (objsP (some ⟨b,off,none⟩) H) (slP H.row)) (hI:HpI H) (up:Int) (hl:(objsP (some ⟨b,off,none⟩) H).length=(objL H ps).length) :
    Calls Tryz.prog 30 #[hov H (.slice (some ⟨b,off,none⟩) H.row.length c1) (.slice a2 H.roots.length c2) (.slice a3 H.mourned.length c3) (.slice a4 H.seen.length c4) up (.slice a5 (objsP (some ⟨b,off,none⟩) H).length c5)] w fun e w'=>e = .returned (.bool (isStr H ps))∧Below w.heap.size w w':=by
 refine isStraight_any h hv hI up FP.rt hl (fun i hi => ?_) (fun i hi => ?_) (fun x hx => ?_) (strW_len FP.rt) ((places_rising FP.rt.some').filter _)
 ·obtain⟨j,q1,_,_,q4,q5,q6,_⟩:=obj_step dr FP.rt hro hi
  exact⟨j,q4,q1,q5,q6⟩
 ·exact slots_there h.1 FP.rt.len (objs_in hro _ (mem_getDP hi))
 ·have e:=FP.word x
  rw[strW_in FP.rt x hx]at e
  unfold ledB
  unfold holdW at e
  cases hA:isA x
  ·rfl
  ·rw[hA,if_pos rfl]at e
   rw[e];rfl
def noteUp (up:Int) (d:Pd):Bool:=decide (up≤d.pl)&&(d.f==7)
set_option maxHeartbeats 2000000 in
theorem noteUp_any {w:World} {B:Nat} {up:Int} (hup:w.cell? ⟨B,9,none⟩=some (.int .i64 up)) (d:Pd) {ua:Option Addr} {un uc:Nat} (hu:d.u = .slice ua un uc) :
    Calls Tryz.prog 68 #[pdv d,.pointer (some ⟨B,0,none⟩)] w fun e w'=>e = .returned (.bool (noteUp up d))∧Below w.heap.size w w':=by
 obtain⟨s,f,c,h,p,m,u,pl⟩:=d
 simp only at hu
 subst hu
 unfold noteUp
 have B0:Below w.heap.size w (w.alloc (pdb ⟨s,f,c,h,p,m,.slice ua un uc,pl⟩)):=(Below.refl _ _).alloc (Nat.le_refl _) _
 have IF:=isNote_any s f c h p m (.slice ua un uc) (w.alloc (pdb ⟨s,f,c,h,p,m,.slice ua un uc,pl⟩))
 have B1:Below w.heap.size w ((w.alloc (pdb ⟨s,f,c,h,p,m,.slice ua un uc,pl⟩)).alloc (cb s f c h p m (.slice ua un uc))):=B0.alloc (by simp) _
 have c9:=(B0.cell (p:=⟨B,9,none⟩) (World.block_lt_of_cell? _ _ hup)).trans hup
 have HB0:Hid _:=B0
 have HB1:Hid _:=B1
 clear B0 B1
 by_cases hle:up≤pl
 ·have hd:decide (up≤pl)=true:=decide_eq_true hle
  simp only[hd,Bool.true_and]
  generalize (f==7)=fb at *
  clear hd
  go_enter Tryz.func68,Tryz.ntmps68
  go_wp2_with (go_at_call 62;refine IF.mono ?_;clear IF;rintro e w3 ⟨rfl,hw3⟩;rw[hw3];clear hw3 w3)
  go_ret
  exact⟨rfl,HB1.out⟩
 ·have hd:decide (up≤pl)=false:=decide_eq_false hle
  simp only[hd,Bool.false_and]
  clear hd IF
  go_enter Tryz.func68,Tryz.ntmps68
  go_wp2
  go_ret
  exact⟨rfl,HB0.out⟩
set_option maxHeartbeats 8000000 in
theorem indexNu_any {w:World} {B:Nat} {up:Int} (hup:w.cell? ⟨B,9,none⟩=some (.int .i64 up)) {v:Value} {ds:List Pd} (h:PdsAt w v ds) (hs:SlicesP ds) (hl:ds.length≤1048576) :
    Calls Tryz.prog 101 #[v,.func (.func 68) #[] #[.pointer (some ⟨B,0,none⟩)]] w fun e w'=>e = .returned (.int .i64 (idxP (noteUp up) ds))∧Below w.heap.size w w':=by
 have HP:Hid _:=h
 obtain⟨a,cap,rfl⟩:=pds_slice h
 obtain⟨_,hlc,hcm⟩:=pds_cap h
 obtain⟨R,hR⟩:∃R,idxP (noteUp up) ds=R:=⟨_,rfl⟩
 rw[hR]
 have HR:Hid _:=hR
 have HS:Hid _:=hs
 have HUP:Hid _:=hup
 clear hR h hs hup
 go_enter Tryz.func101,Tryz.ntmps101
 go_wp2_with fail
 go_loopw [8] (fun q wr=>∃k:Nat,k≤ds.length∧q = .int .i64 (k:Int)∧(∀m,m<k→noteUp up (ds.getD m pdD)=false)∧Below w.heap.size w wr) (fun q _=>ds.length-(intOf q).toNat)
 case atStart=>exact⟨0,Nat.zero_le _,rfl,fun m hm=>by omega,Below.refl _ _⟩
 case round=>
  obtain⟨k,hk,rfl,hne,Br⟩:=hrel
  have HNE:Hid _:=hne
  have HB:Hid _:=Br
  clear hne Br
  by_cases hlt:k<ds.length
  ·obtain⟨b,off,ea,hbl,k0,k1,k2,k3,k4,k5,k6,k7⟩:=pds_cell (pdsAt_below HP.out HB.out) hlt
   subst ea
   obtain⟨ua,un,uc,hu⟩:=HS.out (ds.getD k pdD) (by rw[List.getD_eq_getElem?_getD,List.getElem?_eq_getElem hlt];exact List.getElem_mem hlt)
   obtain⟨x,hx⟩:∃x,ds.getD k pdD=x:=⟨_,rfl⟩
   have HF1:Hid (noteUp up x=false→∀m,m<k+1→noteUp up (ds.getD m pdD)=false):=fun e m hm=>by
    by_cases e':m=k
    ·rw[e',hx];exact e
    ·exact HNE.out m (by omega)
   have HF2:Hid (noteUp up x=true→R=k):=fun e=>HR.out.symm.trans (idxP_at hlt (by rw[hx];exact e) HNE.out)
   rw[hx]at k0 k1 k2 k3 k4 k5 k6 k7 hu
   clear HNE HR hx
   obtain⟨s',f',c',h',p',m',u',pl'⟩:=x
   simp only at k0 k1 k2 k3 k4 k5 k6 k7 hu
   subst hu
   have IS:=noteUp_any ((HB.out.cell (p:=⟨B,9,none⟩) (World.block_lt_of_cell? _ _ HUP.out)).trans HUP.out) (⟨s',f',c',h',p',m',.slice ua un uc,pl'⟩:Pd) (ua:=ua) (un:=un) (uc:=uc) rfl
   obtain⟨tb,htb⟩:∃tb,noteUp up (⟨s',f',c',h',p',m',.slice ua un uc,pl'⟩:Pd)=tb:=⟨_,rfl⟩
   rw[htb]at IS HF1 HF2
   clear htb
   cases tb with
   |true=>
    have HF3:Hid _:=HF2.out rfl
    clear HF1 HF2
    go_wp2_with (go_at_call 68;refine IS.mono ?_;clear IS;rintro e w3 ⟨rfl,b3⟩;have HB3:Hid _:=HB.out.trans (b3.mono HB.out.size);clear b3)
    go_ret
    exact⟨by rw[HF3.out];rfl,HB3⟩
   |false=>
    have HF3:Hid _:=HF1.out rfl
    clear HF1 HF2
    go_wp2_with (go_at_call 68;refine IS.mono ?_;clear IS;rintro e w3 ⟨rfl,b3⟩;have HB3:Hid _:=HB.out.trans (b3.mono HB.out.size);clear b3)
    exact⟨⟨k+1,by omega,by go_num,HF3,HB3⟩,by simp[intOf];omega⟩
  ·have HF3:Hid (R = -1):=HR.out.symm.trans (idxP_no (fun m hm=>HNE.out m (by omega)))
   clear HNE HR
   go_wp2
   go_ret
   exact⟨by rw[HF3.out];rfl,HB⟩
theorem containsNu_any {w:World} {B:Nat} {up:Int} (hup:w.cell? ⟨B,9,none⟩=some (.int .i64 up)) {v:Value} {ds:List Pd} (h:PdsAt w v ds) (hs:SlicesP ds) (hl:ds.length≤1048576) :
    Calls Tryz.prog 67 #[v,.func (.func 68) #[] #[.pointer (some ⟨B,0,none⟩)]] w fun e w'=>e = .returned (.bool (ds.any (noteUp up)))∧Below w.heap.size w w':=by
 have IX:=indexNu_any hup h hs hl
 obtain⟨a,cap,rfl⟩:=pds_slice h
 rw[←idxP_any]
 generalize idxP (noteUp up) ds=R at *
 clear h hs hup
 go_enter Tryz.func67,Tryz.ntmps67
 go_wp2_with (go_at_call 101;refine IX.mono ?_;clear IX;rintro e w3 ⟨rfl,b3⟩;have HB3:Hid _:=b3;clear b3)
 go_ret
 exact⟨rfl,HB3.out⟩
set_option maxHeartbeats 4000000 in
theorem hasNoteUp_any {w:World} {H:Hp} {a1 a2 a3 a4 a5:Option Addr} {n1 c1 n2 c2 n3 c3 n4 c4 c5:Nat} {up:Int} {ds:List Pd} (h:PdsAt w (.slice a5 ds.length c5) ds) (hs:SlicesP ds) (hl:ds.length≤1048576) :
    Calls Tryz.prog 31 #[hov H (.slice a1 n1 c1) (.slice a2 n2 c2) (.slice a3 n3 c3) (.slice a4 n4 c4) up (.slice a5 ds.length c5)] w fun e w'=>e = .returned (.bool (ds.any (noteUp up)))∧Below w.heap.size w w':=by
 have B0:Below w.heap.size w (w.alloc (hob H (.slice a1 n1 c1) (.slice a2 n2 c2) (.slice a3 n3 c3) (.slice a4 n4 c4) up (.slice a5 ds.length c5))):=(Below.refl _ _).alloc (Nat.le_refl _) _
 obtain⟨⟨m0,m1,m2,m3,m4,m5,m6,m7,m8,m9,m10⟩,_⟩:=hob_cells (heap_alloc_new w (hob H (.slice a1 n1 c1) (.slice a2 n2 c2) (.slice a3 n3 c3) (.slice a4 n4 c4) up (.slice a5 ds.length c5)))
 have CN:=containsNu_any m9 (pdsAt_below h B0) hs hl
 have HB0:Hid _:=B0
 generalize ds.any (noteUp up)=bb at *
 clear h hs B0
 go_enter Tryz.func31,Tryz.ntmps31
 go_wp2_with (go_at_call 67;refine CN.mono ?_;clear CN;rintro e w3 ⟨rfl,b3⟩;have HB3:Hid _:=HB0.out.trans (b3.mono HB0.out.size);clear b3)
 go_ret
 exact⟨rfl,HB3.out⟩
theorem noteUp_is {a:Option Addr} {H:Hp} {ps r u l:List Int} (h:heapOk H=true) (R:Rt H ps) (hr:roomB a H=true) (CP:CmP H ps r u l):(objsP a H).any (noteUp (2*H.half))=upNote H u:=by
 have hpl:=objs_places (a:=a) h
 rw[R.some',Option.getD_some]at hpl
 have hlen:(objsP a H).length=(objL H ps).length:=by rw[←hpl];unfold plL;rw[List.length_map]
 have N:=(places_facts R.some').1
 have hh:=N.half
 have low:∀p ∈ r,p<2*H.half:=fun p hp=>by
  obtain⟨_,_,r',u',hr',hu',_,e⟩:=places_facts R.some'
  have e1:=CP.eps
  have e2:=CP.up
  rw[hu']at e2
  injection e2 with e2
  subst e2
  have e3:r'=r:=List.append_cancel_right (e.symm.trans e1)
  subst e3
  obtain⟨_,m1⟩:=walkL_apart _ _ _ _ _ hr'
  have:=m1 p hp
  have:=N.room
  obtain⟨j,rfl,hc,_⟩:=(apart_of R.some').nat p (by rw[e1];exact List.mem_append.2 (.inl hp))
  have hb:=chunk_bounds H.row j
  rw[Int.toNat_natCast]at this
  omega
 have high:∀p ∈ u,2*H.half≤p:=fun p hp=>by
  have e2:=CP.up
  unfold upW at e2
  obtain⟨_,m1⟩:=walkL_apart _ _ _ _ _ e2
  have:=(m1 p hp).1
  omega
 unfold upNote
 rw[Bool.eq_iff_iff,List.any_eq_true,List.any_eq_true]
 constructor
 ·rintro⟨d,hd,hn⟩
  obtain⟨i,hi,rfl⟩:=List.getElem_of_mem hd
  obtain⟨j,q1,_,_,q4,q5,_⟩:=obj_step h R hr hi
  have eg:(objsP a H).getD i pdD=(objsP a H)[i]:=by rw[List.getD_eq_getElem?_getD,List.getElem?_eq_getElem hi];rfl
  unfold noteUp at hn
  rw[Bool.and_eq_true,decide_eq_true_eq,←eg,q1,q5]at hn
  have hm:(j:Int) ∈ objL H ps:=by rw[←q4,List.getD_eq_getElem?_getD,List.getElem?_eq_getElem (by omega)];exact List.getElem_mem _
  have hmp:=(objL_mem hm).1
  rw[CP.eps]at hmp
  rcases List.mem_append.1 hmp with hm'|hm'
  ·have:=low _ hm'
   omega
  ·exact⟨_,hm',hn.2⟩
 ·rintro⟨p,hp,hn⟩
  have hm:p ∈ objL H ps:=by
   unfold objL
   refine List.mem_filter.2 ⟨by rw[CP.eps];exact List.mem_append.2 (.inr hp),?_⟩
   unfold isO
   unfold ntH at hn
   have e7:uF (H.row.getD p.toNat 0)=7:=by simpa using hn
   rw[e7]
   rfl
  obtain⟨i,hi,ei⟩:=List.getElem_of_mem hm
  obtain⟨j,q1,_,_,q4,q5,_⟩:=obj_step h R hr (i:=i) (by omega)
  have hi':i<(objsP a H).length:=by omega
  have eg:(objsP a H).getD i pdD=(objsP a H)[i]:=by rw[List.getD_eq_getElem?_getD,List.getElem?_eq_getElem hi'];rfl
  have ep:(j:Int)=p:=by rw[←q4,List.getD_eq_getElem?_getD,List.getElem?_eq_getElem hi];exact ei
  refine⟨(objsP a H)[i],List.getElem_mem hi',?_⟩
  unfold noteUp
  rw[Bool.and_eq_true,decide_eq_true_eq,←eg,q1,q5,ep]
  exact⟨high p hp,hn⟩
end Go.Proofs.YtemlagfaaibenaaGreat.hp
namespace Go.Proofs.YtemlagfaaibenaaGreat.hp
open Go.RowKit rows heads words walks Go.Maps
set_option maxRecDepth 100000
set_option linter.unusedVariables false
set_option linter.unusedSimpArgs false
def mvO (H:Hp) (up:Int):Nat→List Int→List Mv
 |_,[]=>[]
 |k,p :: os=>if p<up then mvO H up k os else ⟨p.toNat,dstM H k p,(chunk H.row p.toNat).toNat⟩ :: mvO H up (dstM H k p+(chunk H.row p.toNat).toNat) os
theorem mvO_low {H:Hp} {up:Int} {k:Nat}:∀(rs os:List Int),(∀p ∈ rs,p<up)→mvO H up k (rs++os)=mvO H up k os
 | [],os,_=>rfl
 |p :: rs,os,h=>by
  rw[List.cons_append]
  conv=>lhs;unfold mvO
  rw[if_pos (h p (by simp))]
  exact mvO_low rs os (fun q hq=>h q (by simp[hq]))
theorem mvO_up {H:Hp} {up:Int}:∀(us:List Int) (k:Nat),(∀p ∈ us,up≤p)→mvO H up k (objL H us)=mvL H k us
 | [],k,_=>rfl
 |p :: us,k,h=>by
  have hp:=h p (by simp)
  unfold objL
  rw[List.filter_cons]
  unfold isO
  by_cases h6:uF (H.row.getD p.toNat 0)=6
  ·rw[if_neg (by rw[h6];decide)]
   have:mvL H k (p :: us)=mvL H k us:=by
    conv=>lhs;unfold mvL
    rw[if_pos h6]
   rw[this]
   exact mvO_up us k (fun q hq=>h q (by simp[hq]))
  ·have hb:(!(uF (H.row.getD p.toNat 0)==6))=true:=by simpa using h6
   rw[if_pos hb]
   have:mvL H k (p :: us)=⟨p.toNat,dstM H k p,(chunk H.row p.toNat).toNat⟩ :: mvL H (dstM H k p+(chunk H.row p.toNat).toNat) us:=by
    conv=>lhs;unfold mvL
    rw[if_neg h6]
   rw[this]
   conv=>lhs;unfold mvO
   rw[if_neg (by omega)]
   congr 1
   exact mvO_up us _ (fun q hq=>h q (by simp[hq]))
theorem CmP.sides {H:Hp} {ps r u l:List Int} (R:Rt H ps) (CP:CmP H ps r u l):(∀p ∈ r,p<2*H.half)∧∀p ∈ u,2*H.half≤p:=by
 have N:=(places_facts R.some').1
 have hh:=N.half
 constructor
 ·intro p hp
  obtain⟨_,_,r',u',hr',hu',_,e⟩:=places_facts R.some'
  have e1:=CP.eps
  have e2:=CP.up
  rw[hu']at e2
  injection e2 with e2
  subst e2
  have e3:r'=r:=List.append_cancel_right (e.symm.trans e1)
  subst e3
  obtain⟨_,m1⟩:=walkL_apart _ _ _ _ _ hr'
  have:=m1 p hp
  have:=N.room
  obtain⟨j,rfl,hc,_⟩:=(apart_of R.some').nat p (by rw[e1];exact List.mem_append.2 (.inl hp))
  have hb:=chunk_bounds H.row j
  rw[Int.toNat_natCast]at this
  omega
 ·intro p hp
  have e2:=CP.up
  unfold upW at e2
  obtain⟨_,m1⟩:=walkL_apart _ _ _ _ _ e2
  have:=(m1 p hp).1
  omega
theorem mvO_is {H:Hp} {ps r u l:List Int} (R:Rt H ps) (CP:CmP H ps r u l):mvO H (2*H.half) (2*hf H) (objL H ps)=mvL H (2*hf H) u:=by
 obtain⟨s1,s2⟩:=CP.sides R
 have e:objL H ps=objL H r++objL H u:=by rw[CP.eps];unfold objL;rw[List.filter_append]
 rw[e,mvO_low (objL H r) (objL H u) (fun p hp=>s1 p (List.mem_filter.1 (show p ∈ r.filter (isO H) from hp)).1),mvO_up _ _ s2]
theorem mvO_at {H:Hp} {up:Int} {os:List Int} {i k j:Nat} (hi:i<os.length) (hj:os.getD i 0=(j:Int)):mvO H up k (os.drop i)=if (j:Int)<up then mvO H up k (os.drop (i+1)) else ⟨j,dstM H k (j:Int),(chunk H.row j).toNat⟩ :: mvO H up (dstM H k (j:Int)+(chunk H.row j).toNat) (os.drop (i+1)):=by
 rw[dropU_at hi,hj]
 conv=>lhs;unfold mvO
 rw[Int.toNat_natCast]
theorem mv_riseI {H:Hp}:∀(us:List Int) (k:Nat),(∀p ∈ us,0≤p)→us.Pairwise (· < ·)→(mvL H k us).Pairwise (fun a b=>a.f<b.f)∧∀m ∈ mvL H k us,(m.f:Int) ∈ us:=by
 intro us
 induction us with
 |nil=>intro k _ _;exact⟨List.Pairwise.nil,fun m hm=>by cases hm⟩
 |cons p us ih=>
  intro k h0 hr
  obtain⟨h1,h2⟩:=List.pairwise_cons.1 hr
  unfold mvL
  split
  ·obtain⟨i1,i2⟩:=ih k (fun q hq=>h0 q (by simp[hq])) h2
   exact⟨i1,fun m hm=>List.mem_cons_of_mem _ (i2 m hm)⟩
  ·obtain⟨i1,i2⟩:=ih (dstM H k p+(chunk H.row p.toNat).toNat) (fun q hq=>h0 q (by simp[hq])) h2
   have hp:=h0 p (by simp)
   refine⟨List.Pairwise.cons (fun m hm => ?_) i1,fun m hm => ?_⟩
   ·have:=h1 _ (i2 m hm)
    show p.toNat<m.f
    omega
   ·rcases List.mem_cons.1 hm with rfl|hm
    ·simp only
     rw[Int.toNat_of_nonneg hp]
     simp
    ·exact List.mem_cons_of_mem _ (i2 m hm)
theorem cmp_round {b off:Nat} {H:Hp} {ps:List Int} (dr:heapOk H=true) (hro:roomB (some ⟨b,off,none⟩) H=true) (R:Rt H ps):∀i,i<(objsP (some ⟨b,off,none⟩) H).length→∃j n:Nat,(objsP (some ⟨b,off,none⟩) H).getD i pdD=⟨uS (H.row.getD j 0),uF (H.row.getD j 0),uC (H.row.getD j 0),uH (H.row.getD j 0),uP (H.row.getD j 0),uM (H.row.getD j 0),.slice (some ⟨b,off+j,none⟩) n n,(j:Int)⟩∧(objL H ps).getD i 0=(j:Int)∧chunk H.row j=(n:Int)∧2≤n∧j+n≤H.row.length:=fun i hi=>by
 obtain⟨j1,q1,_,_,q4,_⟩:=obj_step dr R hro hi
 obtain⟨j,ed,hc,h6⟩:=objs_in hro _ (mem_getDP hi)
 have hb:=chunk_bounds H.row j
 have ej:j1=j:=by
  have:((objsP (some ⟨b,off,none⟩) H).getD i pdD).pl=(j:Int):=by rw[ed];rfl
  omega
 subst ej
 obtain⟨n,hn⟩:∃n:Nat,chunk H.row j1=(n:Int):=⟨(chunk H.row j1).toNat,by omega⟩
 rw[hn]at hb
 refine⟨j1,n,?_,q4,hn,by omega,by omega⟩
 rw[ed]
 unfold pdOf
 rw[hn,Int.toNat_natCast,piece_at b off j1 _ (by omega)]
def wvM (b off:Nat) (m:Mv):Value:=.slice (some ⟨b,off+m.f,none⟩) m.n m.n
def MvA (w:World) (ms:List Mv) (wv:Mv→Value) (e:Ending) (w':World):Prop:=∃mb n D,e = .returned (.map (some mb))∧w.heap.size≤mb∧MvMap w' mb n D ms wv∧n≤1000∧Below w.heap.size w w'
set_option maxHeartbeats 16000000 in
theorem movesUp_any {w:World} {b off:Nat} {H:Hp} {ps r u l:List Int} (dr:heapOk H=true) (hro:roomB (some ⟨b,off,none⟩) H=true) (R:Rt H ps) (CP:CmP H ps r u l) {a2 a3 a4 a5:Option Addr} {c1 n2 c2 n3 c3 n4 c4 c5:Nat}
    (hP:PdsAt w (.slice a5 (objsP (some ⟨b,off,none⟩) H).length c5) (objsP (some ⟨b,off,none⟩) H)) :
    Calls Tryz.prog 32 #[hov H (.slice (some ⟨b,off,none⟩) H.row.length c1) (.slice a2 n2 c2) (.slice a3 n3 c3) (.slice a4 n4 c4) (2*H.half) (.slice a5 (objsP (some ⟨b,off,none⟩) H).length c5)] w fun e w'=>MvA w (mvL H (2*hf H) u) (wvM b off) e w':=by
 have hmm:= @run_makeMap Tryz.prog
 have N:=(places_facts R.some').1
 have hrl:=R.len
 have HRD:Hid _:=cmp_round dr hro R
 have hpl:=objs_places (a:=some ⟨b,off,none⟩) dr
 rw[R.some',Option.getD_some]at hpl
 have hln:(objsP (some ⟨b,off,none⟩) H).length=(objL H ps).length:=by rw[←hpl];unfold plL;rw[List.length_map]
 have h1000:(objsP (some ⟨b,off,none⟩) H).length≤500:=by
  rw[hln]
  exact Nat.le_trans (objL_len _ _) (places_plc R.some').2
 have HLN:Hid _:=hln
 have HO0:Hid _:=mvO_is R CP
 have HSM:Hid (∀m ∈ mvL H (2*hf H) u,m.f≤1000000∧m.t≤1000000):=fun m hm=>by have:=CP.small N m hm;omega
 have HRS:Hid ((mvL H (2*hf H) u).Pairwise (fun a b=>a.f<b.f)):=by
  have hris:Rising u:=by
   have:=CP.up
   unfold upW at this
   exact walkO_rising this
  obtain⟨_,s2⟩:=CP.sides R
  refine (mv_riseI u _ (fun p hp => ?_) hris).1
  have:=s2 p hp
  have:=N.half
  omega
 have HOD:Hid _:=CP.ord
 have hhf:2*H.half=((2*hf H:Nat):Int):=by have:=N.half;omega
 obtain⟨F,hF⟩:∃F,2*hf H=F:=⟨_,rfl⟩
 have hF4:F≤400:=by have:=N.half1;omega
 rw[hhf,hF]at HO0 ⊢
 rw[hF]at HSM HRS HOD
 have B0:Below w.heap.size w (w.alloc (hob H (.slice (some ⟨b,off,none⟩) H.row.length c1) (.slice a2 n2 c2) (.slice a3 n3 c3) (.slice a4 n4 c4) (F:Int) (.slice a5 (objsP (some ⟨b,off,none⟩) H).length c5))):=(Below.refl _ _).alloc (Nat.le_refl _) _
 have HQ0:Hid _:=heap_alloc_new w (hob H (.slice (some ⟨b,off,none⟩) H.row.length c1) (.slice a2 n2 c2) (.slice a3 n3 c3) (.slice a4 n4 c4) (F:Int) (.slice a5 (objsP (some ⟨b,off,none⟩) H).length c5))
 have HB0:Hid _:=B0
 have HPD:Hid _:=pdsAt_below hP B0
 generalize hOS:objL H ps=os at *
 generalize mvL H F u=mvs at *
 generalize objsP (some ⟨b,off,none⟩) H=ds at *
 clear hP B0 R CP N dr hro hpl hln hOS hhf hF
 go_enter Tryz.func32,Tryz.ntmps32
 go_upto_region 1 with fail
 generalize hX:w.alloc _=X at *
 have sX:w.heap.size<X.heap.size:=lt_of_block HQ0.out
 have HMO:Hid (MvMap (X.alloc (.map #[] 0)) X.heap.size 0 (.map []) [] (wvM b off)):=⟨World.ownsMap_made X Tryz.prog 91 heldW,fun kl hk=>by simp[Maps.has]at hk,fun m hm=>by cases hm⟩
 have BX:Below X.heap.size X (X.alloc (.map #[] 0)):=(Below.refl _ _).alloc (Nat.le_refl _) _
 obtain⟨⟨-, -, -, -, -, -, -, -, -, m9,m10⟩,_⟩:=hob_cells ((BX.block _ sX).trans HQ0.out)
 have HBX:Hid _:=BX
 clear hX BX
 go_wp2_with fail
 generalize (X.alloc (.map #[] 0))=Y at *
 clear m9 m10
 go_loopw [4,6,15] (fun v4 _ q wr=>∃(i kk n:Nat) (D:DataW Value) (dd:List Mv),i≤ds.length∧q = .int .i64 (i:Int)∧v4 = .int .i64 (kk:Int)∧kk≤100000∧n≤i∧dd++mvO H (F:Int) kk (os.drop i)=mvs∧MvMap wr X.heap.size n D dd (wvM b off)∧Below X.heap.size X wr) (fun _ _ q _=>ds.length-(intOf q).toNat)
 case atStart=>exact⟨0,F,0,.map [],[],Nat.zero_le _,rfl,rfl,by omega,Nat.le_refl _,HO0.out,HMO.out,HBX.out⟩
 case round=>
  obtain⟨i,kk,n,D,dd,hi,rfl,rfl,hkk,hni,hdd,hM,hB⟩:=hrel
  clear HMO HBX
  have HDD:Hid _:=hdd
  have HM:Hid _:=hM
  have HB:Hid _:=hB
  by_cases hlt:i<ds.length
  ·have hlt':(i:Int)<(ds.length:Int):=by omega
   obtain⟨j,nn,hd,hoj,hch,hn2,hjn⟩:=HRD.out i hlt
   obtain⟨pb,po,ea,hpb,k0,k1,k2,k3,k4,k5,k6,k7⟩:=pds_cell (pdsAt_below HPD.out hB) hlt
   subst ea
   rw[hd]at k0 k1 k2 k3 k4 k5 k6 k7
   simp only at k0 k1 k2 k3 k4 k5 k6 k7
   have HAT:Hid _:=mvO_at (H:=H) (up:=(F:Int)) (os:=os) (i:=i) (k:=kk) (by rw[←HLN.out];exact hlt) hoj
   rw[hch,Int.toNat_natCast]at HAT
   have HDP:Hid (dstM H kk (j:Int)=if uP (H.row.getD j 0)=true then j else kk):=by show _=_;unfold dstM;rw[Int.toNat_natCast]
   clear hdd hM hB hd hoj hch
   generalize uF (H.row.getD j 0)=f at *
   generalize uS (H.row.getD j 0)=s at *
   generalize uC (H.row.getD j 0)=c at *
   generalize uH (H.row.getD j 0)=g at *
   generalize uP (H.row.getD j 0)=p at *
   generalize uM (H.row.getD j 0)=m0 at *
   go_upto_region 6 with fail
   have BY:Below wr.heap.size wr (wr.alloc (pdb ⟨s,f,c,g,p,m0,.slice (some ⟨b,off+j,none⟩) nn nn,(j:Int)⟩)):=(Below.refl _ _).alloc (Nat.le_refl _) _
   have QY:=heap_alloc_new wr (pdb ⟨s,f,c,g,p,m0,.slice (some ⟨b,off+j,none⟩) nn nn,(j:Int)⟩)
   have HMY:Hid _:=HM.out.kept (World.grownBy_alloc wr (pdb ⟨s,f,c,g,p,m0,.slice (some ⟨b,off+j,none⟩) nn nn,(j:Int)⟩) none) (by simp)
   have HBY:Hid (Below X.heap.size X (wr.alloc (pdb ⟨s,f,c,g,p,m0,.slice (some ⟨b,off+j,none⟩) nn nn,(j:Int)⟩))):=HB.out.trans (BY.mono HB.out.size)
   obtain⟨⟨p0,p1,p2,p3,p4,p5,p6,p7⟩,-⟩:=pdb_cells QY
   simp only at p0 p1 p2 p3 p4 p5 p6 p7
   have HQY:Hid _:=QY
   obtain⟨⟨-, -, -, -, -, -, -, -, -, m9,m10⟩,_⟩:=hob_cells ((HBY.out.block _ sX).trans HQ0.out)
   have HMX:Hid _:=HM.out
   clear k0 k1 k2 k3 k4 k5 k6 k7 BY QY HM HB
   have hbz:wr.heap.size<(wr.alloc (pdb ⟨s,f,c,g,p,m0,.slice (some ⟨b,off+j,none⟩) nn nn,(j:Int)⟩)).heap.size:=by simp
   generalize wr.alloc (pdb ⟨s,f,c,g,p,m0,.slice (some ⟨b,off+j,none⟩) nn nn,(j:Int)⟩)=V at *
   have HBP:Hid (X.heap.size<wr.heap.size∨X.heap.size≠wr.heap.size):=.inr (fun e=>by have:=HMX.out.own.lt;omega)
   generalize wr.heap.size=pB at *
   by_cases hlow:(j:Int)<(F:Int)
   ·have HN:Hid (dd++mvO H (F:Int) kk (os.drop (i+1))=mvs):=by show _=_;rw[←HDD.out,HAT.out,if_pos hlow]
    go_wp2
    exact⟨⟨i+1,kk,n,D,dd,by omega,by go_num,rfl,hkk,by omega,HN.out,HMY.out,HBY.out⟩,by simp[intOf];omega⟩
   ·have hup:(F:Int)≤(j:Int):=by omega
    obtain⟨td,htd⟩:∃td,dstM H kk (j:Int)=td:=⟨_,rfl⟩
    have hAT:=HAT.out
    rw[if_neg hlow,htd]at hAT
    have HTD:Hid (td=if p=true then j else kk):=by show _=_;rw[←htd];exact HDP.out
    have HN:Hid ((dd++[⟨j,td,nn⟩])++mvO H (F:Int) (td+nn) (os.drop (i+1))=mvs):=by show _=_;rw[←HDD.out,hAT];simp
    have hmem:(⟨j,td,nn⟩:Mv) ∈ mvs:=by rw[←HN.out];simp
    have hsm:=HSM.out _ hmem
    simp only at hsm
    have htb:=ord_apart HOD.out
    have htT:=(htb.1 _ hmem).2.1
    simp only at htT
    have HF:Hid (∀x ∈ dd,x.f≠j):=fun x hx=>by
     have pr:=HRS.out
     rw[←HN.out]at pr
     have:=(List.pairwise_append.1 (List.pairwise_append.1 pr).1).2.2 x hx ⟨j,td,nn⟩ (by simp)
     simp only at this
     omega
    have HSD:Hid (∀x ∈ dd,x.f≤1000000∧x.t≤1000000):=fun x hx=>HSM.out x (by rw[←HN.out];simp[hx])
    have HKY:Hid (keyOf Tryz.prog 91 (mvV (j:Int) (td:Int))=some (klM (j:Int) (td:Int))):=mv_key (i64_wf hsm.1) (i64_wf hsm.2)
    have HPE:Hid (heldW (.slice (some ⟨b,off+j,none⟩) nn nn)=some (.held (wvM b off ⟨j,td,nn⟩),[])):=rfl
    have SZ:=size_any s f c g p m0 (some ⟨b,off+j,none⟩) nn nn
    have hnx:n<maxLen:=by unfold maxLen;omega
    have htn:td+nn≤100000:=by omega
    clear hAT htd hmem htb hlow HAT HDP
    have HMO2:Hid _:=HMY.out.own
    have hgoal:∀w1:World,w1.ownsMap Tryz.prog 91 heldW X.heap.size (n+1) (D.put (klM (j:Int) (td:Int)) (.held (wvM b off ⟨j,td,nn⟩)))→V.grownBy w1 (some X.heap.size)→MvMap w1 X.heap.size (n+1) (D.put (klM (j:Int) (td:Int)) (.held (wvM b off ⟨j,td,nn⟩))) (dd++[⟨j,td,nn⟩]) (wvM b off)∧Below X.heap.size X w1∧w1.heap[pB]? = some (pdb ⟨s,f,c,g,p,m0,.slice (some ⟨b,off+j,none⟩) nn nn,(j:Int)⟩):=fun w1 h1 h2=>by
     refine⟨HMY.out.more (m:=⟨j,td,nn⟩) HSD.out hsm HF.out h1,⟨h2.os.trans HBY.out.os,h2.tape.trans HBY.out.tape,h2.output.trans HBY.out.output,Nat.le_trans HBY.out.size h2.size,fun q hq=>(h2.block q (Nat.lt_of_lt_of_le hq HBY.out.size) (by intro e;injection e with e;omega)).trans (HBY.out.block q hq)⟩,(h2.block pB hbz (by intro e;injection e with e;have:=HBP.out;omega)).trans HQY.out⟩
    have HGL:Hid _:=hgoal
    clear hgoal
    cases p
    ·have e:td=kk:=HTD.out
     subst e
     go_wp2_with (first
      |(at_mapUpdate;refine wpList_mapUpdate_own _ rfl _ _ _ 61 rfl 91 22 mvLaw Tryz.underlying61 _ X.heap.size n _ rfl HMO2.out hnx _ _ _ rfl rfl HKY.out _ [] HPE.out ?_;intro w1 hown1 hgrow1;obtain⟨M1,B1,Q1⟩:=HGL.out w1 hown1 hgrow1;have HM1:Hid _:=M1;have HB1:Hid _:=B1;clear hown1 hgrow1 M1 B1 p0 p1 p2 p3 p4 p5 p6 p7 m9 m10;obtain⟨⟨p0,p1,p2,p3,p4,p5,p6,p7⟩,-⟩:=pdb_cells Q1;simp only at p0 p1 p2 p3 p4 p5 p6 p7;clear Q1)
      |(go_at_call 69;refine (SZ _).mono ?_;clear SZ;rintro e w2 ⟨rfl,hw2⟩;have HM2:Hid (MvMap w2 _ _ _ _ _):=(by rw[hw2];exact HM1.out.kept (World.grownBy_alloc _ _ none) (by simp));have HB2:Hid (Below X.heap.size X w2):=(by rw[hw2];exact HB1.out.alloc HB1.out.size _);clear hw2))
     exact⟨⟨i+1,td+nn,n+1,_,_,by omega,by go_num,by go_num,htn,by omega,HN.out,HM2.out,HB2.out⟩,by simp[intOf];omega⟩
    ·have e:td=j:=HTD.out
     subst e
     go_wp2_with (first
      |(at_mapUpdate;refine wpList_mapUpdate_own _ rfl _ _ _ 61 rfl 91 22 mvLaw Tryz.underlying61 _ X.heap.size n _ rfl HMO2.out hnx _ _ _ rfl rfl HKY.out _ [] HPE.out ?_;intro w1 hown1 hgrow1;obtain⟨M1,B1,Q1⟩:=HGL.out w1 hown1 hgrow1;have HM1:Hid _:=M1;have HB1:Hid _:=B1;clear hown1 hgrow1 M1 B1 p0 p1 p2 p3 p4 p5 p6 p7 m9 m10;obtain⟨⟨p0,p1,p2,p3,p4,p5,p6,p7⟩,-⟩:=pdb_cells Q1;simp only at p0 p1 p2 p3 p4 p5 p6 p7;clear Q1)
      |(go_at_call 69;refine (SZ _).mono ?_;clear SZ;rintro e w2 ⟨rfl,hw2⟩;have HM2:Hid (MvMap w2 _ _ _ _ _):=(by rw[hw2];exact HM1.out.kept (World.grownBy_alloc _ _ none) (by simp));have HB2:Hid (Below X.heap.size X w2):=(by rw[hw2];exact HB1.out.alloc HB1.out.size _);clear hw2))
     exact⟨⟨i+1,td+nn,n+1,_,_,by omega,by go_num,by go_num,htn,by omega,HN.out,HM2.out,HB2.out⟩,by simp[intOf];omega⟩
  ·have hlt':¬(i:Int)<(ds.length:Int):=by omega
   have e:i=ds.length:=by omega
   subst e
   have HE:Hid (dd=mvs):=by
    have:=HDD.out
    rw[HLN.out,List.drop_length]at this
    show _=_
    rw[←this]
    show dd=dd++[]
    rw[List.append_nil]
   have HBE:Hid _:=HB0.out.trans (HB.out.mono HB0.out.size)
   clear hdd hM hB
   go_wp2
   go_ret
   exact⟨_,n,D,rfl,by omega,by rw[←HE.out];exact HM.out,by omega,HBE.out⟩
end Go.Proofs.YtemlagfaaibenaaGreat.hp
namespace Go.Proofs.YtemlagfaaibenaaGreat.hp
open Go.RowKit rows heads words walks region Go.Maps
set_option maxRecDepth 100000
set_option linter.unusedVariables false
set_option linter.unusedSimpArgs false
theorem plainCopyK {P:Program} {o:Oper} {D:Nat→Bool} {a0:Act} {u:Nat→Value} {W:World} {Q:Exit→Act→World→Prop} {dk:Nat} (hgd:o.guard=none) (hd':o.dst=some dk) (hD:D dk=true) (d s:Operand) (dT sT:TypeId)
    (ho:o.op = .call { callee:=.builtin .copy,args:=#[d,s],argTypes:=#[dT,sT] }) (elem:TypeId) (hu:P.underlying dT=some (.slice elem)) (hsz:(P.info? elem).map (·.size)=some 1)
    (dp sp:Option Addr) (dLen dCap sLen sCap:Nat) (hd:(ovr D a0 u).eval d = .slice dp dLen dCap) (hs:(ovr D a0 u).eval s = .slice sp sLen sCap)
    (g off:Nat) (cur:List Value) (t:TypeId) (hg:W.heap[g]? = some (.cells cur.toArray t (0,0))) (cs:List Value) (hn:cs.length=Nat.min sLen dLen*1)
    (hpos:0<cs.length→dp=some ⟨g,off,none⟩∧∃ad,sp=some ad∧∀j v,cs[j]? = some v→W.cell? (ad.add j)=some v)
    (hfit:off+cs.length≤cur.length) (h1:∀v ∈ cs,v.oneCell'=true)
    (h:∀W',W'.heap[g]? = some (.cells (splice cur off cs).toArray t (0,0))→Ch [g] W W'→Q .normal (ovr D a0 (upd u dk (goInt (Nat.min sLen dLen)))) W') :
    o.wp P (ovr D a0 u) W (fun a' W'=>∃u',a'=ovr D a0 u'∧Q .normal (ovr D a0 u') W') Q:=by
 have:=copyk.step_copy_k (P:=P) (ops:=#[]) (E:=False) (Q:=Q) (K:=fun a' W'=>∃u',a'=ovr D a0 u'∧Q .normal (ovr D a0 u') W') hgd d s dT sT ho elem 1 (by decide) hu hsz dp sp dLen dCap sLen sCap hd hs g off cur t hg cs hn hpos hfit h1 0 W (Below.refl _ _) (Nat.zero_le _) (fun w' hF hO hB=>⟨_,put_in hd' hD u _,h w' hF.out ⟨hB.os,hB.tape,hB.output,hB.size,fun k _ hk=>hO.out k (by simpa using hk)⟩⟩)
 rwa [if_pos (wanted_none hgd)]at this
theorem cell_ch {S:List Nat} {w w':World} {b k:Nat} (h:Ch S w w') (hl:b<w.heap.size) (hn:b ∉ S):w'.cell? ⟨b,k,none⟩=w.cell? ⟨b,k,none⟩:=by
 have:=h.block b hl hn
 simp[World.cell?, this]
theorem chGC {w w':World} {g:Nat} (h:w.grownBy w' (some g)):Ch [g] w w':=⟨h.os,h.tape,h.output,h.size,fun k hk hn=>h.block k hk (fun e=>hn (by injection e with e;simp[e]))⟩
theorem grown_ch {w w':World} {g:Nat} (h:Ch [g] w w'):w.grownBy w' (some g):=⟨h.os,h.tape,h.output,h.size,fun k hk hn=>h.block k hk (fun e=>hn (by have:k=g:=(by simpa using e);rw[this]))⟩
theorem mv_ch {w w':World} {g mb n:Nat} {D:DataW Value} {ms:List Mv} {wv:Mv→Value} (h:MvMap w mb n D ms wv) (hc:Ch [g] w w') (hm:mb≠g):MvMap w' mb n D ms wv:=h.kept (grown_ch hc) (fun e=>hm (by injection e))
def altR (xs:List Int) (F:Nat):Nat→List Int
 |0=>xs
 |i+1=>((altR xs F i).set (F+2*i) (pk 0 6 0 0 false false)).set (F+2*i+1) 2
theorem altR_len (xs:List Int) (F:Nat):∀i,(altR xs F i).length=xs.length
 |0=>rfl
 |i+1=>by unfold altR;rw[List.length_set,List.length_set,altR_len xs F i]
theorem altR_get {xs:List Int} {F:Nat}:∀(i:Nat),F+2*i≤xs.length→∀q,(altR xs F i).getD q 0=if F≤q∧q<F+2*i then altA F q else xs.getD q 0
 |0,_,q=>by rw[if_neg (by omega)];rfl
 |i+1,h,q=>by
  have ih:=altR_get (xs:=xs) (F:=F) i (by omega) q
  have hl:=altR_len xs F i
  unfold altR
  rw[pk6,List.getD_eq_getElem?_getD,List.getElem?_set,List.length_set,hl,List.getElem?_set,hl]
  rw[List.getD_eq_getElem?_getD]at ih
  by_cases e1:F+2*i+1=q
  ·rw[if_pos e1,if_pos (by omega),if_pos (by omega)]
   unfold altA
   rw[if_neg (by omega)]
   rfl
  ·rw[if_neg e1]
   by_cases e2:F+2*i=q
   ·rw[if_pos e2,if_pos (by omega),if_pos (by omega)]
    unfold altA
    rw[if_pos (by omega)]
    rfl
   ·rw[if_neg e2,ih]
    by_cases e3:F≤q∧q<F+2*i
    ·rw[if_pos e3,if_pos (by omega)]
    ·rw[if_neg e3,if_neg (by omega)]
theorem altR_all {xs:List Int} (h:AllI xs) {F:Nat}:∀i,AllI (altR xs F i)
 |0=>h
 |i+1=>by unfold altR;rw[pk6];exact allI_set (allI_set (altR_all h i) _ ⟨by decide,by decide⟩) _ ⟨by decide,by decide⟩
theorem ints_ch {w w':World} {g b off n c:Nat} {xs:List Int} (h:IntsAt w (.slice (some ⟨b,off,none⟩) n c) xs) (hc:Ch [g] w w') (hn:b≠g):IntsAt w' (.slice (some ⟨b,off,none⟩) n c) xs:=by
 obtain⟨a',c',e,q1,q2,q3,q4⟩:=h
 injection e with e1 e2 e3
 subst e1 e2 e3
 refine⟨_,_,rfl,q1,q2,q3,fun hp => ?_⟩
 obtain⟨b',o',e',hb,hcs⟩:=q4 hp
 injection e' with e'
 injection e' with e1 e2 _
 subst e1 e2
 exact⟨b,off,rfl,Nat.lt_of_lt_of_le hb hc.size,fun i hi=>(cell_ch hc hb (by simp;exact hn)).trans (hcs i hi)⟩
theorem puI_start {H:Hp} {F i:Nat} (h:F+2*i=H.row.length):PuI H F (fun _=>False) (altR H.row F i):=
 ⟨altR_len _ _ _,fun q hq=>by rw[altR_get i (by omega),if_neg (by omega)],fun m hm=>hm.elim,fun q h1 h2 _=>by rw[altR_get i (by omega),if_pos (by omega)]⟩
theorem wd_src {W:World} {b off c1:Nat} {H:Hp} (h:IntsAt W (.slice (some ⟨b,off,none⟩) H.row.length c1) H.row) {m:Mv} (hm:m.f+m.n≤H.row.length):∀j v,(cellsOf (wdM H m))[j]? = some v→W.cell? ((⟨b,off+m.f,none⟩:Addr).add j)=some v:=fun j v hv=>by
 have hl:=wd_len (H:=H) (m:=m) hm
 unfold cellsOf at hv
 rw[List.getElem?_map]at hv
 obtain⟨x,hx,rfl⟩:=Option.map_eq_some_iff.1 hv
 have hj:j<m.n:=by
  have:=(List.getElem?_eq_some_iff.1 hx).1
  omega
 have e:x=H.row.getD (m.f+j) 0:=by rw[←wd_get hj,List.getD_eq_getElem?_getD,hx];rfl
 obtain⟨b',o',e',_,c⟩:=ints_cell h (show m.f+j<H.row.length by omega)
 injection e' with e'
 injection e' with e1 e2 _
 rw[e]
 rw[show ((⟨b,off+m.f,none⟩:Addr).add j)=⟨b,off+(m.f+j),none⟩ by simp[Addr.add,Nat.add_assoc],e1,e2]
 exact c
theorem splice_putC {xs ys:List Int} {k:Nat}:splice (cellsOf xs) k (cellsOf ys)=cellsOf (putR xs k ys):=by
 unfold splice putR cellsOf
 simp[List.map_take,List.map_drop]
theorem mv_one {H:Hp} {ms:List Mv} (hr:ms.Pairwise (fun a b=>a.f<b.f)) {a b:Mv} (ha:a ∈ ms) (hb:b ∈ ms) (h:a.f=b.f):a=b:=by
 induction ms with
 |nil=>cases ha
 |cons m ms ih=>
  obtain⟨h1,h2⟩:=List.pairwise_cons.1 hr
  rcases List.mem_cons.1 ha with ea|ha'
  ·rcases List.mem_cons.1 hb with eb|hb'
   ·rw[ea,eb]
   ·have:=h1 b hb'
    rw[ea]at h
    omega
  ·rcases List.mem_cons.1 hb with eb|hb'
   ·have:=h1 a ha'
    rw[eb]at h
    omega
   ·exact ih h2 ha' hb'
theorem same_kl {a b:Mv} (ha:a.f≤1000000∧a.t≤1000000) (hb:b.f≤1000000∧b.t≤1000000):(klM a.f a.t).sameKey (klM b.f b.t)=true↔klM a.f a.t=klM b.f b.t:=by
 unfold klM Lit.sameKey
 simp
def dPu7 (k:Nat):Nat:=match k with
 |0=>39
 |1=>40
 |2=>41
 |3=>42
 |4=>43
 |5=>44
 |6=>45
 |7=>46
 |_=>2000
theorem dPu7_inj:∀k,k<8→∀j,j<8→dPu7 j=dPu7 k→j=k:=by decide
def DPu7 (s:Nat):Bool:=s==39 || s==40 || s==41 || s==42 || s==43 || s==44 || s==45 || s==46 || s==47
def FPu7 (H:Hp) (P g1 mB mt b off mf mn:Nat) (k:Nat) (t:Value) (_:World):Prop:=
 match k with
 |0=>t = .pointer (some ⟨P,0,none⟩)
 |1=>t = .pointer (some ⟨P,0,none⟩)
 |2=>t = .pointer (some ⟨P,2,none⟩)
 |3=>t = .slice (some ⟨g1,0,none⟩) H.row.length H.row.length
 |4=>t = .pointer (some ⟨mB,1,none⟩)
 |5=>t = .int .i64 (mt:Int)
 |6=>t = .slice (some ⟨g1,mt,none⟩) (H.row.length-mt) (H.row.length-mt)
 |7=>t = .slice (some ⟨b,off+mf,none⟩) mn mn
 |_=>False
def RgM (W:World) (mb r n:Nat) (D:DataW Value) (left:Lit→Bool) (cnt:Nat):Prop:=W.ranges Tryz.prog 91 heldW mb r n D left cnt
def PuA (w:World) (P g1:Nat) (c0 c1 c3 c4 c5 c6 c7 c8:Value) (ys:List Int) (e:Ending) (w':World):Prop:=∃va vn vc,e = .returned (.tuple #[])∧rows.Own w' w.heap.size (.slice va vn vc) ys∧Nine w' P 27 c0 c1 (.slice va vn vc) c3 c4 c5 c6 c7 c8∧Ch [P,g1] w w'
set_option maxHeartbeats 32000000 in
theorem pushTog_any {w:World} {P g1 b off c1 mb n:Nat} {H:Hp} {ps r u l:List Int} {D:DataW Value} (dr:heapOk H=true) (hI:AllI H.row) (R:Rt H ps) (CP:CmP H ps r u l) {vo vm vs:Value}
    (hN:Nine w P 27 (.int .i64 H.half) (.int .i64 H.old) (.slice (some ⟨g1,0,none⟩) H.row.length H.row.length) (.int .i64 H.side) (.int .i64 H.top) vo vm vs (.int .i64 H.seed)) (hF:Full w g1 H.row) (hS:IntsAt w (.slice (some ⟨b,off,none⟩) H.row.length c1) H.row) (hM:MvMap w mb n D (mvL H (2*hf H) u) (wvM b off)) (hPg:P≠g1) (hbg:b≠g1) (hmg:mb≠g1) :
    Calls Tryz.prog 33 #[.pointer (some ⟨P,0,none⟩),.map (some mb)] w fun e w'=>PuA w P g1 (.int .i64 H.half) (.int .i64 H.old) (.int .i64 H.side) (.int .i64 H.top) vo vm vs (.int .i64 H.seed) (cmpR H (2*hf H) H.row.length u) e w':=by
 have N:=(places_facts R.some').1
 have hrl:=R.len
 obtain⟨F,hF0⟩:∃F,2*hf H=F:=⟨_,rfl⟩
 obtain⟨T,hT0⟩:∃T,H.row.length=T:=⟨_,rfl⟩
 have hFF:2*H.half=(F:Int):=by have:=N.half;omega
 have hTT:2*H.half+H.old=(T:Int):=by have:=N.half;have:=N.old;have:=N.len;omega
 have hFT:F≤T∧(T-F) % 2=0:=by have:=N.len;have:=N.old1;omega
 have hhb:0≤H.half∧H.half≤200∧0≤H.old∧H.old≤400:=by have h1:=N.half1;have h2:=N.half;have h3:=N.old1;have h4:=N.old;exact⟨by omega,by omega,by omega,by omega⟩
 have HRL:Hid (∀V,Calls Tryz.prog 70 #[.int .i64 H.half,.int .i64 H.old] V fun e w'=>e = .returned (.int .i64 (T:Int))∧w'=V):=fun V=>by
  have:=rowLength_int (x:=H.half) (y:=H.old) ⟨hhb.1,by omega⟩ ⟨hhb.2.2.1,by omega⟩ V
  rw[hTT]at this
  exact this
 have HOD:Hid (OrdM H T F (mvL H F u)):=by have:=CP.ord;rw[hF0,hT0]at this;exact this
 have HSM:Hid (∀m ∈ mvL H F u,m.f≤1000000∧m.t≤1000000):=fun m hm=>by have:=CP.small N m (by rw[hF0];exact hm);omega
 have HRS:Hid ((mvL H F u).Pairwise (fun a b=>a.f<b.f)):=by
  have hris:Rising u:=by
   have:=CP.up
   unfold upW at this
   exact walkO_rising this
  obtain⟨_,s2⟩:=CP.sides R
  refine (mv_riseI u _ (fun p hp => ?_) hris).1
  have:=s2 p hp
  omega
 rw[hF0]at hM
 have HCO:Hid (∀xs,PuI H F (fun m=>m ∈ mvL H F u) xs→AllI xs→coal xs (2*H.half) (2*H.half+H.old)=cmpR H F T u):=fun xs hx ha=>by
  rcases cmp_coal (H:=H) (F:=F) (T:=T) (u:=u) hT0.symm HOD.out hx with e|e
  ·rw[hFF,←hFF,hTT,hFF]
   exact e
  ·unfold rowOk at e
   rw[decide_eq_false_iff_not]at e
   exact absurd (by rw[hx.len];omega) e
 have HT0:Hid _:=hT0
 have HN:Hid _:=hN
 have HF:Hid _:=hF
 have HS:Hid _:=hS
 have HM:Hid _:=hM
 have HII:Hid _:=hI
 have hPw:=lt_of_block hN
 have hgw:=lt_of_block hF
 have hmw:=hM.own.lt
 have hbw:b<w.heap.size∨H.row.length=0:=.inl (by
  obtain⟨b',o',e,hb,_⟩:=ints_cell hS (show 0<H.row.length by have:=N.len;have:=N.half1;omega)
  injection e with e
  injection e with e1 _ _
  rw[e1];exact hb)
 rw[hF0,hT0]
 generalize mvL H F u=mvs at *
 obtain⟨RR,hRR⟩:∃RR,cmpR H F T u=RR:=⟨_,rfl⟩
 rw[hRR]at HCO ⊢
 have HTE:Hid (F+2*((T-F) / 2)=H.row.length):=by show _=_;omega
 clear hN hF hS hM hI N R CP dr hF0 hT0 hRR
 obtain⟨⟨z0,z1,z2,z3,z4⟩,⟨z5,z6,z7,z8⟩,_⟩:=nine_cells HN.out
 have iw:IntKind.i64.wrap (2*H.half)=(F:Int):=by rw[IntKind.wrap_i64];omega
 go_enter Tryz.func33,Tryz.ntmps33
 go_wp2_with fail
 clear z0 z1 z2 z3 z4 z5 z6 z7 z8
 go_loopw [4] (fun v4 wr=>∃i at1:Nat,at1=F+2*i∧at1≤T∧v4 = .int .i64 (at1:Int)∧Full wr g1 (altR H.row F i)∧Ch [g1] w wr) (fun v4 _=>T-(intOf v4).toNat)
 case atStart=>exact⟨0,F,rfl,by omega,rfl,HF.out,Ch.refl _ _⟩
 case round=>
  obtain⟨i,at1,hat1,hi,rfl,hF1,hC1⟩:=hrel
  have HAT:Hid _:=hat1
  clear hat1
  have HN1:Hid _:=nine_ch HN.out hC1 (by simp;exact hPg)
  obtain⟨⟨z0,z1,z2,z3,z4⟩,⟨z5,z6,z7,z8⟩,_⟩:=nine_cells HN1.out
  have HF1:Hid _:=hF1
  have HC1:Hid _:=hC1
  clear hF1 hC1
  go_upto_region 1 with fail
  go_quiet ((go_at_call 70;exact (HRL.out _).mono fun _ _ ⟨he,hm⟩=>⟨he,_,hm⟩))
  clear z0 z1 z2 z3 z4 z5 z6 z7 z8
  generalize hwd:wr.drewN _=wd at *
  have BQ:Below wr.heap.size wr wd:=by rw[←hwd];exact bel_of_drewN ⟨_,rfl⟩
  clear hwd
  have HNd:Hid _:=nine_below HN1.out BQ
  have HFd:Hid _:=full_bel HF1.out BQ
  have HCd:Hid _:=HC1.out.trans (ch_below BQ)
  obtain⟨⟨z0,z1,z2,z3,z4⟩,⟨z5,z6,z7,z8⟩,_⟩:=nine_cells HNd.out
  clear BQ HN1 HF1 HC1
  by_cases hlt:at1<T
  ·have hlt':(at1:Int)<(T:Int):=by omega
   have hTl:T≤H.row.length:=by have:=HT0.out;omega
   have PH:=putHead_any (cap:=H.row.length) (k:=F+2*i) (n:=2) HFd.out (by rw[altR_len]) (by omega) (Nat.le_refl _) (show F+2*i+2≤H.row.length by have:=HAT.out;have:=HT0.out;omega)
   have hT1:T≤1000:=by omega
   rw[←HAT.out]at PH
   go_wp2_with (go_at_call 71;refine PH.mono ?_;clear PH z0 z1 z2 z3 z4 z5 z6 z7 z8;rintro e w2 ⟨rfl,f2,g2⟩;have HF2:Hid (Full w2 g1 (altR H.row F (i+1))):=(by have e9:=HAT.out;unfold altR;rw[←e9];exact f2);have HC2:Hid _:=HCd.out.trans (chGC g2);clear f2 g2)
   exact⟨⟨i+1,at1+2,by have:=HAT.out;omega,by have:=HAT.out;omega,by go_num,HF2.out,HC2.out⟩,by simp[intOf];omega⟩
  ·have hlt':¬(at1:Int)<(T:Int):=by omega
   have HPU:Hid (PuI H F (fun _=>False) (altR H.row F i)):=puI_start (by have:=HT0.out;have:=HAT.out;omega)
   have HMd:Hid _:=mv_ch HM.out HCd.out hmg
   clear z0 z1 z2 z3 z4 z5 z6 z7 z8
   have HAL:Hid (AllI (altR H.row F i)):=altR_all HII.out i
   have HW3:Hid (w.heap.size≤wd.heap.size):=HCd.out.size
   generalize altR H.row F i=xs0 at *
   obtain⟨w3,hw3⟩:∃w3,w3=wd:=⟨_,rfl⟩
   subst hw3
   have HA0:Hid (AllI xs0):=HAL.out
   go_wp2_with (at_range;refine wpList_range_own _ rfl _ 61 rfl 91 22 mvLaw Tryz.underlying61 _ mb n D rfl HMd.out.own ?_;intro w4 hrg0 hg0 hs0;have HRG0:Hid _:=hrg0;have HG0:Hid _:=hg0;clear hrg0 hg0 hs0)
   try go_frame
   have hg13:g1<w3.heap.size:=Nat.lt_of_lt_of_le hgw HCd.out.size
   have HF4:Hid (Full w4 g1 xs0):=(HG0.out.block g1 hg13 (by simp)).trans HFd.out
   have HC4:Hid (Ch [g1] w w4):=HCd.out.trans ⟨HG0.out.os,HG0.out.tape,HG0.out.output,HG0.out.size,fun k hk _=>HG0.out.block k hk (by simp)⟩
   have HP0:Hid (PuI H F (fun m=>m ∈ mvs∧Maps.has D (klM m.f m.t)=false) xs0):=HPU.out.congr (fun m=>⟨fun h=>h.elim,fun h=>by have:=(HM.out.ats m h.1).1;rw[h.2]at this;cases this⟩)
   clear HFd HCd HNd HMd HPU
   go_loopw [5,6] (fun _ _ wr=>∃(left:Lit→Bool) (cnt:Nat) (xs:List Int),RgM wr mb w3.heap.size n D left cnt∧(∀kl,left kl=true→Maps.has D kl=true)∧PuI H F (fun m=>m ∈ mvs∧left (klM m.f m.t)=false) xs∧Full wr g1 xs∧AllI xs∧Ch [g1] w wr) (fun _ _ wr=>wr.rangeLeft mb w3.heap.size)
   case atStart=>exact⟨_,_,xs0,HRG0.out,fun kl h=>h,HP0.out,HF4.out,HA0.out,HC4.out⟩
   case round=>
    obtain⟨left,cnt,xs,hrg,hlf,hPu,hFx,hAx,hCx⟩:=hrel
    have HRG:Hid _:=hrg
    have HLF:Hid _:=hlf
    have HPu:Hid _:=hPu
    have HFx:Hid _:=hFx
    have HAx:Hid _:=hAx
    have HCx:Hid _:=hCx
    clear hrg hlf hPu hFx hAx hCx HRG0 HG0 HF4 HC4 HP0 HA0
    go_wp2_with (at_next;refine wpList_next_mv rfl _ rfl 91 mvLaw heldW mb w3.heap.size n D left cnt rfl HRG.out ?_ ?_)
    ·intro _ hl0
     have HPE:Hid (PuI H F (fun m=>m ∈ mvs) xs):=HPu.out.congr (fun m=>⟨fun h=>h.1,fun h=>⟨h,hl0 _⟩⟩)
     have HNx:Hid _:=nine_ch HN.out HCx.out (by simp;exact hPg)
     have OW:rows.Own wr 0 (.slice (some ⟨g1,0,none⟩) xs.length xs.length) xs:=full_own HFx.out (Nat.zero_le _) (by rw[HPE.out.len];unfold maxLen;omega)
     have II:IntsAt wr (.slice (some ⟨g1,0,none⟩) H.row.length H.row.length) xs:=by have:=own_ints OW;rw[HPE.out.len]at this;exact this
     have CO:=coalesceUp_any HNx.out II (by rw[HPE.out.len];exact hrl) HAx.out ⟨hhb.1,hhb.2.1⟩ hhb.2.2
     rw[HCO.out xs HPE.out HAx.out]at CO
     clear OW II hl0
     go_wp2_with (go_at_call 72;refine CO.mono ?_;clear CO;rintro e w5 ⟨va,vn,vc,rfl,O5,N5,C5⟩;have HO5:Hid _:=O5;have HN5:Hid _:=N5;have HC5:Hid _:=C5;clear O5 N5 C5)
     refine bodyPost_end (results_none rfl _ _ _) rfl ⟨va,vn,vc,rfl,own_base HO5.out HCx.out.size,HN5.out,⟨HC5.out.os.trans HCx.out.os,HC5.out.tape.trans HCx.out.tape,HC5.out.output.trans HCx.out.output,Nat.le_trans HCx.out.size HC5.out.size,fun k hk hn=>(HC5.out.block k (Nat.lt_of_lt_of_le hk HCx.out.size) (by simp at hn ⊢; exact hn.1)).trans (HCx.out.block k hk (by simp at hn ⊢; exact hn.2))⟩⟩
    ·intro key v kl yd yp w5 cnt5 hkey hlk hv hat hrg1 hlt1 hg1 hs1 hen
     obtain⟨m,hm,ekl,ekey,ev⟩:=mv_come (y:=(yd,yp)) HM.out HSM.out HLF.out hkey hlk hv hat
     subst ekl ekey ev
     obtain⟨mf,mt,mn⟩:=m
     have hap:=ord_apart HOD.out
     obtain⟨o1,o2,o3,o4,o5,o6,o7,o8⟩:=hap.1 _ hm
     simp only at o1 o2 o3 o4 o5
     have hTl:T=H.row.length:=HT0.out.symm
     have hmfl:mf+mn≤H.row.length:=by omega
     have hmtl:mt+mn≤H.row.length:=by omega
     have HXL:Hid (xs.length=H.row.length):=HPu.out.len
     have hne7:¬H.row.length=mt:=by omega
     have hle7:(mt:Int)≤(H.row.length:Int):=by omega
     have hmle7:mt≤H.row.length:=by omega
     obtain⟨left2,hl2⟩:∃left2:Lit→Bool,left2=fun z=>left z && !z.sameKey (klM (mf:Int) (mt:Int)):=⟨_,rfl⟩
     have HL2:Hid _:=hl2
     rw[←hl2]at hrg1
     have HRG1:Hid (RgM w5 mb w3.heap.size n D left2 cnt5):=hrg1
     have HLF7:Hid (∀kl,left2 kl=true→Maps.has D kl=true):=fun kl h=>HLF.out kl (by rw[hl2]at h;simp only[Bool.and_eq_true]at h;exact h.1)
     have HPN:Hid (PuI H F (fun x=>x ∈ mvs∧left2 (klM x.f x.t)=false) (putR xs mt (wdM H ⟨mf,mt,mn⟩))):=by
      rw[hl2]
      refine (HPu.out.more (m:=⟨mf,mt,mn⟩) o1 hmtl hmfl (fun x hx => ?_)).congr (fun x => ?_)
      ·refine apart_pair hap.2 hx.1 hm (fun e => ?_)
       have h2:=hx.2
       rw[e]at h2
       rw[hlk]at h2
       cases h2
      ·constructor
       ·rintro (⟨h1,h2⟩|rfl)
        ·exact⟨h1,by show (left (klM x.f x.t)&&_)=false;rw[h2];rfl⟩
        ·exact⟨hm,by show (left _ && !((klM (mf:Int) (mt:Int)).sameKey (klM (mf:Int) (mt:Int))))=false;rw[show (klM (mf:Int) (mt:Int)).sameKey (klM (mf:Int) (mt:Int))=true from (same_kl (a:=⟨mf,mt,mn⟩) (b:=⟨mf,mt,mn⟩) (HSM.out _ hm) (HSM.out _ hm)).2 rfl];simp⟩
       ·rintro⟨h1,h2⟩
        by_cases e:x=⟨mf,mt,mn⟩
        ·exact .inr e
        ·left
         refine⟨h1,?_⟩
         have h2':(left (klM x.f x.t) && !(klM x.f x.t).sameKey (klM (mf:Int) (mt:Int)))=false:=h2
         rw[Bool.and_eq_false_iff]at h2'
         rcases h2' with h2|h2
         ·exact h2
         ·have h3:(klM x.f x.t).sameKey (klM (mf:Int) (mt:Int))=true:=by simpa using h2
          have h4:=(same_kl (b:=⟨mf,mt,mn⟩) (HSM.out _ h1) (HSM.out _ hm)).1 h3
          exact absurd (mv_one (H:=H) HRS.out h1 hm (kl_inj (b:=⟨mf,mt,mn⟩) (HSM.out _ h1) (HSM.out _ hm) h4).1) e
     have HAN:Hid (AllI (putR xs mt (wdM H ⟨mf,mt,mn⟩))):=by
      show AllI _
      unfold putR wdM
      exact allI_append (allI_append (allI_take HAx.out _) (allI_take (allI_drop HII.out _) _)) (allI_drop HAx.out _)
     have h35:w3.heap.size<w5.heap.size:=by rw[hs1];exact World.ranges.lt HRG.out
     have HF5:Hid (Full w5 g1 xs):=(hg1.block g1 (lt_of_block HFx.out) (by intro e;injection e with e;omega)).trans HFx.out
     have hwr3:w.heap.size≤w3.heap.size:=HW3.out
     have HC5:Hid (Ch [g1] w w5):=⟨hg1.os.trans HCx.out.os,hg1.tape.trans HCx.out.tape,hg1.output.trans HCx.out.output,Nat.le_trans HCx.out.size hg1.size,fun k hk hn=>(hg1.block k (Nat.lt_of_lt_of_le hk HCx.out.size) (by intro e;injection e with e;omega)).trans (HCx.out.block k hk hn)⟩
     clear hl2 hs1 hap o1 o2 o3 o4 o5 o6 o7 o8 hkey hv hat hlk hg1 hrg1
     unfold wvM at hen ⊢
     simp only at hen ⊢
     go_upto_region 7 with fail
     have B6:Below w5.heap.size w5 (w5.alloc (.cells #[.int .i64 (mf:Int),.int .i64 (mt:Int)] 91)):=(Below.refl _ _).alloc (Nat.le_refl _) _
     have c61:(w5.alloc (.cells #[.int .i64 (mf:Int),.int .i64 (mt:Int)] 91)).cell? ⟨w5.heap.size,1,none⟩=some (.int .i64 (mt:Int)):=by simp
     have HRG6:Hid (RgM _ mb w3.heap.size n D left2 cnt5):=World.ranges.alloc HRG1.out (.cells #[.int .i64 (mf:Int),.int .i64 (mt:Int)] 91)
     have HF6:Hid _:=full_bel HF5.out B6
     have HC6:Hid _:=HC5.out.trans (ch_below B6)
     have HN6:Hid _:=nine_ch HN.out HC6.out (by simp;exact hPg)
     clear B6 hen
     generalize (w5.alloc (.cells #[.int .i64 (mf:Int),.int .i64 (mt:Int)] 91))=w6 at *
     generalize w5.heap.size=mB at *
     have HSRC:Hid (∀W,Below w6.heap.size w6 W→∀j v,(cellsOf (wdM H ⟨mf,mt,mn⟩))[j]? = some v→W.cell? ((⟨b,off+mf,none⟩:Addr).add j)=some v):=fun W hW=>wd_src (m:=⟨mf,mt,mn⟩) (ints_ch HS.out (HC6.out.trans (ch_below hW)) hbg) hmfl
     have HSTEP:Hid (∀W W',Below w6.heap.size w6 W→W'.heap[g1]? = some (.cells (splice (cellsOf xs) mt (cellsOf (wdM H ⟨mf,mt,mn⟩))).toArray 2 (0,0))→Ch [g1] W W'→RgM W' mb w3.heap.size n D left2 cnt5∧PuI H F (fun x=>x ∈ mvs∧left2 (klM x.f x.t)=false) (putR xs mt (wdM H ⟨mf,mt,mn⟩))∧Full W' g1 (putR xs mt (wdM H ⟨mf,mt,mn⟩))∧AllI (putR xs mt (wdM H ⟨mf,mt,mn⟩))∧Ch [g1] w W'):=fun W W' hW hF' hC'=>by
      refine⟨?_,HPN.out,?_,HAN.out,(HC6.out.trans (ch_below hW)).trans hC'⟩
      ·refine World.ranges.kept (World.ranges.kept (row:=none) HRG6.out ⟨hW.os,hW.tape,hW.output,hW.size,fun k hk _=>hW.block k hk⟩ (by simp) (by simp)) (grown_ch hC') (fun e=>hmg (by injection e)) (fun e => ?_)
       injection e with e
       omega
      ·rw[splice_putC]at hF'
       exact hF'
     clear HRG1 HF5 HC5 HPN HAN
     generalize hA0:(Act.mk _ [])=A0
     have e0:A0.tmps.getD 0 undef = .pointer (some ⟨P,0,none⟩):=by rw[←hA0];rfl
     have e5:A0.tmps.getD 5 undef = .pointer (some ⟨mB,0,none⟩):=by rw[←hA0];rfl
     have e6:A0.tmps.getD 6 undef = .slice (some ⟨b,off+mf,none⟩) mn mn:=by rw[←hA0];rfl
     have sz:A0.tmps.size=50:=by rw[←hA0];rfl
     refine wp_region_last (by kernel_rfl) DPu7 (by simp) ?_ 8 rfl dPu7 dPu7_inj (FPu7 H P g1 mB mt b off mf mn) ?_ ?_ ?_ ?_
     ·intro k o ho
      have hk:k<9:=(Array.getElem?_eq_some_iff.1 ho).1
      rcases (show k=0∨k=1∨k=2∨k=3∨k=4∨k=5∨k=6∨k=7∨k=8 by omega) with rfl|rfl|rfl|rfl|rfl|rfl|rfl|rfl|rfl<;>(obtain rfl:=Option.some.inj ho;simp)
     ·intro k t W W' hb h
      match k,h with
      |0,h=>exact h
      |1,h=>exact h
      |2,h=>exact h
      |3,h=>exact h
      |4,h=>exact h
      |5,h=>exact h
      |6,h=>exact h
      |7,h=>exact h
      |_+8,h=>exact h.elim
     ·intro l hC kk hkk
      have CL:=hC 8 _ rfl (fun h=>by omega)
      have l6:l 6=true:=CL ⟨6,.data⟩ (by simp) (by simp[Region.binds])
      have l7:l 7=true:=CL ⟨7,.data⟩ (by simp) (by simp[Region.binds])
      have l3:l 3=true:=hC 6 _ rfl (fun _=>l6) ⟨3,.data⟩ (by simp) (by simp[Region.binds])
      have l5:l 5=true:=hC 6 _ rfl (fun _=>l6) ⟨5,.data⟩ (by simp) (by simp[Region.binds])
      have l2:l 2=true:=hC 3 _ rfl (fun _=>l3) ⟨2,.data⟩ (by simp) (by simp[Region.binds])
      have l1:l 1=true:=hC 2 _ rfl (fun _=>l2) ⟨1,.data⟩ (by simp) (by simp[Region.binds])
      have l0:l 0=true:=hC 1 _ rfl (fun _=>l1) ⟨0,.data⟩ (by simp) (by simp[Region.binds])
      have l4:l 4=true:=hC 5 _ rfl (fun _=>l5) ⟨4,.data⟩ (by simp) (by simp[Region.binds])
      rcases (show kk=0∨kk=1∨kk=2∨kk=3∨kk=4∨kk=5∨kk=6∨kk=7 by omega) with rfl|rfl|rfl|rfl|rfl|rfl|rfl|rfl
      ·exact l0
      ·exact l1
      ·exact l2
      ·exact l3
      ·exact l4
      ·exact l5
      ·exact l6
      ·exact l7
     ·intro k o u W hk ho hB hF
      have ev:∀s,DPu7 s=true→s<50→(ovr DPu7 A0 u).tmps[s]?.getD undef=u s:=fun s h1 h2=>(getD_at _ _).symm.trans (eval_in h1 (by omega))
      have o0:(ovr DPu7 A0 u).tmps[0]?.getD undef=_:=(getD_at _ _).symm.trans ((eval_out (D:=DPu7) (a0:=A0) (u:=u) (s:=0) rfl (by omega)).trans e0)
      have o5:(ovr DPu7 A0 u).tmps[5]?.getD undef=_:=(getD_at _ _).symm.trans ((eval_out (D:=DPu7) (a0:=A0) (u:=u) (s:=5) rfl (by omega)).trans e5)
      have o6:(ovr DPu7 A0 u).tmps[6]?.getD undef=_:=(getD_at _ _).symm.trans ((eval_out (D:=DPu7) (a0:=A0) (u:=u) (s:=6) rfl (by omega)).trans e6)
      obtain⟨⟨_,_,z2,_,_⟩,_,_⟩:=nine_cells (nine_below HN6.out hB)
      have cm:=(hB.cell (p:=⟨mB,1,none⟩) (World.block_lt_of_cell? _ _ c61)).trans c61
      rcases (show k=0∨k=1∨k=2∨k=3∨k=4∨k=5∨k=6∨k=7 by omega) with rfl|rfl|rfl|rfl|rfl|rfl|rfl|rfl
      all_goals obtain rfl:=Option.some.inj ho
      ·refine plainV (v:=.pointer (some ⟨P,0,none⟩)) rfl rfl ?_ rfl
       simp only[execOp]
       go_simp
       try go_num
       try (rw[if_pos hmle7,if_neg hne7])
      ·have x0:=(ev 39 rfl (by decide)).trans (hF 0 (by decide) (by simp[Region.binds]))
       refine plainV (v:=.pointer (some ⟨P,0,none⟩)) rfl rfl ?_ rfl
       simp only[execOp]
       go_simp
       try go_num
       try (rw[if_pos hmle7,if_neg hne7])
      ·have x1:=(ev 40 rfl (by decide)).trans (hF 1 (by decide) (by simp[Region.binds]))
       refine plainV (v:=.pointer (some ⟨P,2,none⟩)) rfl rfl ?_ rfl
       simp only[execOp]
       go_simp
       try go_num
       try (rw[if_pos hmle7,if_neg hne7])
      ·have x2:=(ev 41 rfl (by decide)).trans (hF 2 (by decide) (by simp[Region.binds]))
       refine plainV (v:=.slice (some ⟨g1,0,none⟩) H.row.length H.row.length) rfl rfl ?_ rfl
       simp only[execOp]
       go_simp
       try go_num
       try (rw[if_pos hmle7,if_neg hne7])
      ·refine plainV (v:=.pointer (some ⟨mB,1,none⟩)) rfl rfl ?_ rfl
       simp only[execOp]
       go_simp
       try go_num
       try (rw[if_pos hmle7,if_neg hne7])
      ·have x4:=(ev 43 rfl (by decide)).trans (hF 4 (by decide) (by simp[Region.binds]))
       refine plainV (v:=.int .i64 (mt:Int)) rfl rfl ?_ rfl
       simp only[execOp]
       go_simp
       try go_num
       try (rw[if_pos hmle7,if_neg hne7])
      ·have x3:=(ev 42 rfl (by decide)).trans (hF 3 (by decide) (by simp[Region.binds]))
       have x5:=(ev 44 rfl (by decide)).trans (hF 5 (by decide) (by simp[Region.binds]))
       refine plainV (v:=.slice (some ⟨g1,mt,none⟩) (H.row.length-mt) (H.row.length-mt)) rfl rfl ?_ rfl
       simp only[execOp]
       go_simp
       try go_num
       try (rw[if_pos hmle7,if_neg hne7])
      ·refine plainV (v:=.slice (some ⟨b,off+mf,none⟩) mn mn) rfl rfl ?_ rfl
       simp only[execOp]
       go_simp
       try go_num
       try (rw[if_pos hmle7,if_neg hne7])
     ·intro o u W ho hB hF
      obtain rfl:=Option.some.inj ho
      have ev:∀s,DPu7 s=true→s<50→(ovr DPu7 A0 u).tmps[s]?.getD undef=u s:=fun s h1 h2=>(getD_at _ _).symm.trans (eval_in h1 (by omega))
      have o0:(ovr DPu7 A0 u).tmps[0]?.getD undef=_:=(getD_at _ _).symm.trans ((eval_out (D:=DPu7) (a0:=A0) (u:=u) (s:=0) rfl (by omega)).trans e0)
      have o5:(ovr DPu7 A0 u).tmps[5]?.getD undef=_:=(getD_at _ _).symm.trans ((eval_out (D:=DPu7) (a0:=A0) (u:=u) (s:=5) rfl (by omega)).trans e5)
      have o6:(ovr DPu7 A0 u).tmps[6]?.getD undef=_:=(getD_at _ _).symm.trans ((eval_out (D:=DPu7) (a0:=A0) (u:=u) (s:=6) rfl (by omega)).trans e6)
      obtain⟨⟨_,_,z2,_,_⟩,_,_⟩:=nine_cells (nine_below HN6.out hB)
      have cm:=(hB.cell (p:=⟨mB,1,none⟩) (World.block_lt_of_cell? _ _ c61)).trans c61
      have x6:=(ev 45 rfl (by decide)).trans (hF 6 (by decide))
      have x7:=(ev 46 rfl (by decide)).trans (hF 7 (by decide))
      refine plainCopyK (dk:=47) rfl rfl rfl (.tmp 45) (.tmp 46) 22 22 rfl 2 Tryz.underlying22 infoSize (some ⟨g1,mt,none⟩) (some ⟨b,off+mf,none⟩) (H.row.length-mt) (H.row.length-mt) mn mn ?_ ?_ g1 mt (cellsOf xs) 2 (full_bel HF6.out hB) (cellsOf (wdM H ⟨mf,mt,mn⟩)) (by show _=min _ _*1;simp only[cellsOf,List.length_map];rw[wd_len (H:=H) (m:=⟨mf,mt,mn⟩) hmfl];show mn=_;omega) (fun _=>⟨rfl,_,rfl,HSRC.out W hB⟩) (by simp only[cellsOf,List.length_map];rw[wd_len (H:=H) (m:=⟨mf,mt,mn⟩) hmfl,HXL.out];exact hmtl) (ints_oneCell _ _) ?_
      ·show (ovr DPu7 A0 u).tmps.getD 45 undef=_
       exact (getD_at _ _).trans x6
      ·show (ovr DPu7 A0 u).tmps.getD 46 undef=_
       exact (getD_at _ _).trans x7
      ·intro W' hF' hC'
       obtain⟨K1,K2,K3,K4,K5⟩:=HSTEP.out W W' hB hF' hC'
       have HK5:Hid _:=K5
       have HK1:Hid _:=K1
       have HK2:Hid _:=K2
       have HK3:Hid _:=K3
       have HK4:Hid _:=K4
       clear K1 K2 K3 K4 K5 hF' hC' z2 cm hF x6 x7 ev o0 o5 o6 e0 e5 e6 sz
       subst hA0
       simp[ovr,DPu7,List.range,List.range.loop]
       go_wp2
       exact⟨⟨_,_,_,HK1.out,HLF7.out,HK2.out,HK3.out,HK4.out,HK5.out⟩,by rw[World.ranges.left_eq HK1.out,World.ranges.left_eq HRG.out];exact hlt1⟩
end Go.Proofs.YtemlagfaaibenaaGreat.hp
namespace Go.Proofs.YtemlagfaaibenaaGreat.hp
open Go.RowKit rows heads words walks region
set_option maxRecDepth 100000
set_option linter.unusedVariables false
set_option linter.unusedSimpArgs false
end Go.Proofs.YtemlagfaaibenaaGreat.hp
