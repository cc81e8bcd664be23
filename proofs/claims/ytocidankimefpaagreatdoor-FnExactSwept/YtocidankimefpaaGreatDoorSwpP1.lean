/-
  Chapter 15 as the program has it: what isStraight wants of a right heap.
  Made from the template SwpP1.
-/
import Derived.Test.YtocidankimefpaaGreatDoorSwpI7
import Derived.Test.YtocidankimefpaaGreatDoorM27
namespace Go.Proofs.YtocidankimefpaaGreatDoor.hp
open Go.RowKit rows heads words walks
set_option maxRecDepth 100000
set_option linter.unusedVariables false
set_option linter.unusedSimpArgs false
theorem slots_there {w:World} {b off cap:Nat} {xs:List Int} (hx:IntsAt w (.slice (some ⟨b,off,none⟩) xs.length cap) xs) (hl:xs.length≤1000) {d:Pd} (hd:InRow (some ⟨b,off,none⟩) xs d) :
    ∃ua un uc,IntsAt w (.slice ua un uc) (slP xs d)∧∀V,Calls Tryz.prog 71 #[cv d.s d.f d.c d.h d.p d.m d.u] V fun e w'=>e = .returned (.slice ua un uc)∧Below V.heap.size V w':=by
 have hsl:=inRow_slots hd
 obtain⟨j,rfl,hc,h6⟩:=hd
 have q:=chunk_fits hc h6
 have eu:(pdOf (some ⟨b,off,none⟩) xs j).u = .slice (some ⟨b,off+j,none⟩) (chunk xs j).toNat (chunk xs j).toNat:=piece_at b off j _ (by omega)
 rw[eu]
 have hn:(if uF (xs.getD j 0)=7 then 1 else uS (xs.getD j 0))=((cnP (pdOf (some ⟨b,off,none⟩) xs j):Nat):Int):=by
  rw[cnP_of]
  by_cases h7:uF (xs.getD j 0)=7
  ·rw[if_pos h7];first|rw[if_pos h7];rfl|omega
  ·rw[if_neg h7];first|(rw[if_neg h7];omega)|omega
 have hle:1+cnP (pdOf (some ⟨b,off,none⟩) xs j)≤(chunk xs j).toNat:=by
  rw[cnP_of]
  by_cases h7:uF (xs.getD j 0)=7
  ·rw[if_pos h7];first|rw[if_pos h7];rfl|omega
  ·rw[if_neg h7];first|(rw[if_neg h7];omega)|omega
 have hp:IntsAt w (piece (some ⟨b,off+j,none⟩) 1 (cnP (pdOf (some ⟨b,off,none⟩) xs j))) (slP xs (pdOf (some ⟨b,off,none⟩) xs j)):=by
  unfold slP
  have hj:(pdOf (some ⟨b,off,none⟩) xs j).pl.toNat=j:=by simp[pdOf]
  rw[hj]at hsl ⊢
  by_cases h0:cnP (pdOf (some ⟨b,off,none⟩) xs j)=0
  ·rw[h0,piece_none,List.take_zero]
   exact⟨some ⟨b,off+j,none⟩,0,rfl,by simp,by decide,fun _=>rfl,fun h=>by simp at h⟩
  ·rw[piece_at b (off+j) 1 _ (by omega)]
   have:=piece_is hx (by omega) (j+1) (cnP (pdOf (some ⟨b,off,none⟩) xs j)) (by omega)
   rw[piece_at b off (j+1) _ (by omega)]at this
   rwa [show off+j+1=off+(j+1) by omega]
 exact⟨_,_,_,hp,fun V=>slots_any _ _ _ _ _ _ b (off+j) (chunk xs j).toNat (cnP (pdOf (some ⟨b,off,none⟩) xs j)) V (by omega) hn hle⟩
theorem strW_in {H:Hp} {ps:List Int} (R:Rt H ps):∀x ∈ strW H ps,wordIn H ps x=true:=fun x hx=>by
 unfold strW at hx
 rcases List.mem_append.1 hx with hx|hx
 ·exact R.root_in hx
 ·obtain⟨p,hp,hx⟩:=List.mem_flatMap.1 hx
  have hp1:=(List.mem_filter.1 hp).1
  exact R.slot_in (List.mem_filter.1 hp1).1 hx
theorem straight_of {w:World} {b off c1 c2 c3 c4 c5:Nat} {a2 a3 a4 a5:Option Addr} {H:Hp} {ps:List Int} (dr:heapOk H=true) (hro:roomB (some ⟨b,off,none⟩) H=true) (FP:FolP H ps (objsP (some ⟨b,off,none⟩) H) (slP H.row)) (h:HpAt w (.slice (some ⟨b,off,none⟩) H.row.length c1) (.slice a2 H.roots.length c2) (.slice a3 H.mourned.length c3) (.slice a4 H.seen.length c4) H) (hv:RoomsAt w (.slice a5 (objsP (some ⟨b,off,none⟩) H).length c5) (objsP (some ⟨b,off,none⟩) H) (slP H.row)) (hI:HpI H) (up:Int) (hl:(objsP (some ⟨b,off,none⟩) H).length=(objL H ps).length) :
    Calls Tryz.prog 33 #[hov H (.slice (some ⟨b,off,none⟩) H.row.length c1) (.slice a2 H.roots.length c2) (.slice a3 H.mourned.length c3) (.slice a4 H.seen.length c4) up (.slice a5 (objsP (some ⟨b,off,none⟩) H).length c5)] w fun e w'=>e = .returned (.bool (isStr H ps))∧Below w.heap.size w w':=by
 refine isStraight_any h hv hI up FP.rt hl (fun i hi => ?_) (fun i hi => ?_) (fun x hx => ?_) (strW_len FP.rt) ((places_rising FP.rt.some').filter _)
 ·obtain⟨j,q1,_,_,q4,q5,q6,_⟩:=obj_step dr FP.rt hro hi
  exact⟨j,q4,q1,q5,q6⟩
 ·exact slots_there h.1 FP.rt.len (objs_in hro _ (mem_getDP hi))
 ·have e:=FP.word x
  rw[strW_in FP.rt x hx]at e
  unfold ledB
  unfold holdW at e
  cases hA:isA x
  ·rfl
  ·rw[hA,if_pos rfl]at e
   rw[e];rfl
end Go.Proofs.YtocidankimefpaaGreatDoor.hp
