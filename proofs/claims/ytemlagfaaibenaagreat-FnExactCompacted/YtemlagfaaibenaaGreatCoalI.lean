/-
  Chapter 8 as the program has it: Coalesced.
  Made from the template CoalI.
-/
import Derived.Test.YtemlagfaaibenaaGreatCoalI1
namespace Go.Proofs.YtemlagfaaibenaaGreat.walks
open Go.RowKit rows heads words
set_option maxRecDepth 100000
theorem freeIn_places (xs:List Int) (f t:Int):∃ps:List Nat,freeIn xs f t=ps.map (fun p:Nat=>(p:Int))∧(walkOk xs f t=true→ps=((walked xs f t).map Int.toNat).filter fun p=>uF (xs.getD p 0)==6)∧(∀p ∈ ps,okAt xs p=true∧chunk xs p≠0):=by
 refine⟨((walked xs f t).map Int.toNat).filter fun p=>uF (xs.getD p 0)==6,?_,fun _=>rfl,?_⟩
 ·unfold freeIn
  have hm:∀x ∈ walked xs f t,∃j:Nat,x=j:=fun x hx=>by obtain⟨j,e,_⟩:=walked_mem hx;exact⟨j,e⟩
  generalize walked xs f t=L at *
  induction L with
  |nil=>rfl
  |cons x L ih=>
   obtain⟨j,rfl⟩:=hm x (by simp)
   have ih:=ih fun y hy=>hm y (by simp[hy])
   rw[List.map_cons,List.filter_cons,List.filter_cons,Int.toNat_natCast]
   have e:isFreeAt xs (j:Int)=(uF (xs.getD j 0)==6):=rfl
   rw[e]
   cases (uF (xs.getD j 0)==6)
   ·simpa using ih
   ·simpa using ih
 ·intro p hp
  obtain⟨hp,_⟩:=List.mem_filter.1 hp
  obtain⟨x,hx,rfl⟩:=List.mem_map.1 hp
  obtain⟨j,rfl,h2,h3,h4⟩:=walked_mem hx
  rw[Int.toNat_natCast]
  exact⟨by simp only[okAt,Bool.and_eq_true];exact⟨h3,by simp[atOk];omega⟩,h4⟩
def writeT (xs:List Int) (R:List Run) (k:Nat):List Int:=writeR xs (R.take k) xs
theorem writeT_next (xs:List Int) {R:List Run} {k:Nat} (hk:k<R.length):writeT xs R (k+1)=finR xs (writeT xs R k) (R.getD k (0,0)).1 (R.getD k (0,0)).2:=by
 unfold writeT
 rw[List.take_add_one,List.getElem?_eq_getElem hk,List.getD_eq_getElem?_getD,List.getElem?_eq_getElem hk]
 exact writeR_snoc xs (R.take k) R[k].1 R[k].2 xs
theorem writeT_length {xs:List Int} {R:List Run} (h:InRow xs R):∀k,(writeT xs R k).length=xs.length:=by
 intro k
 induction k with
 |zero=>rfl
 |succ k ih=>
  by_cases hk:k<R.length
  ·rw[writeT_next xs hk]
   have hm:=h (R.getD k (0,0)) (by rw[List.getD_eq_getElem?_getD,List.getElem?_eq_getElem hk];exact List.getElem_mem hk)
   unfold finR
   split
   ·exact ih
   ·rw[freeR_length (by omega) hm.1,ih]
  ·have e:writeT xs R (k+1)=writeT xs R k:=by
     unfold writeT
     rw[List.take_of_length_le (by omega),List.take_of_length_le (by omega)]
   rw[e];exact ih
theorem ownF_cells {w:World} {base:Nat} {a:Option Addr} {n c:Nat} {R:List Run} (h:OwnF w base (.slice a n c) R) {i:Nat} (hi:i<R.length):∃g,a=some ⟨g,0,none⟩∧g<w.heap.size∧base≤g∧w.cell? ⟨g,i*2,none⟩=some (.int .i64 ((R.getD i (0,0)).1:Int))∧w.cell? ⟨g,i*2+1,none⟩=some (.int .i64 ((R.getD i (0,0)).2:Int)):=by
 obtain⟨g,rfl,rfl,hg,hl⟩:=ownF_form h (by omega)
 have cg:=cellsF_get R i hi
 exact⟨g,rfl,hl,hg,(World.ownsRow.cellAt h (i*2) (by omega)).trans cg.1,(World.ownsRow.cellAt h (i*2+1) (by omega)).trans cg.2⟩
theorem ownF_grown {w w':World} {base b:Nat} {v:Value} {R:List Run} (h:OwnF w base v R) (hg:w.grownBy w' (some b)) (hb:b<base):OwnF w' base v R:=by
 refine World.ownsRow.kept h hg ?_
 cases e:v.ownBlock with
 |none=>exact .inl rfl
 |some k=>
  right
  intro e'
  have:=(ownF_lt h k e).1
  injection e' with e'
  omega
set_option maxHeartbeats 8000000 in
theorem coal_yes {w:World} {v:Value} {xs:List Int} (f t:Int) (h:IntsAt w v xs) (hl:xs.length≤1048576) (ha:AllI xs) (hf:I64 f) (ht:I64 t) (d1:rowOk xs=true) :
    Calls Tryz.prog 102 #[v,.int .i64 f,.int .i64 t] w fun e w'=>∃v',e = .returned (.tuple #[v',.bool (walkOk xs f t)])∧rows.Own w' w.heap.size v' (coal xs f t)∧Below w.heap.size w w':=by
 have hm:xs.length≤maxLen:=by unfold maxLen;omega
 obtain⟨ps,hps,hpw,hpo⟩:=freeIn_places xs f t
 have hpl:ps.length≤1000:=by have:=(freeIn_length xs f t).1;rw[hps,List.length_map]at this;exact this
 obtain⟨R,hR⟩:∃R,runsT xs ps ps.length=R:=⟨_,rfl⟩
 have hRI:InRow xs R:=by rw[←hR];exact runsT_in (fun p hp=>(hpo p hp).2) _
 have hRL:R.length≤1000:=by rw[←hR];exact Nat.le_trans (runsT_length xs ps _) hpl
 have hfin:coal xs f t=writeT xs R R.length:=by
  unfold coal writeT
  rw[List.take_length]
  cases e:walkOk xs f t
  ·have:walkR xs f t=none:=by
     unfold walkOk at e
     cases e':walkR xs f t with
     |none=>rfl
     |some l=>rw[e']at e;cases e
   have hp0:ps=[]:=by
    have:freeIn xs f t=[]:=by simp[freeIn,walked,this]
    rw[this]at hps
    exact List.map_eq_nil_iff.1 hps.symm
   rw[←hR,hp0,d1]
   rfl
  ·rw[if_pos rfl,←(runs_by xs ((walked xs f t).map Int.toNat) [] xs).1,←hpw e,←hR]
   unfold runsT
   rw[List.take_length]
 have RW:=isRow_any h
 rw[d1]at RW
 have CP:=copied_any h hl
 have HWK:Hid (∀W,Below w.heap.size w W→Calls Tryz.prog 125 #[v,.int .i64 f,.int .i64 t] W fun e w'=>∃v',e = .returned (.tuple #[v',.bool (walkOk xs f t)])∧rows.Own w' W.heap.size v' (walked xs f t)∧Below W.heap.size W w'):=fun W hW=>implWalk W v xs f t (intsAt_below h hW) hl ha hf ht
 have HFI:Hid (∀W,Below w.heap.size w W→Calls Tryz.prog 127 #[v,.int .i64 f,.int .i64 t] W fun e w'=>∃v',e = .returned v'∧rows.Own w' W.heap.size v' (ps.map fun p:Nat=>(p:Int))∧Below W.heap.size W w'):=fun W hW=>by
  have:=implFreeIn W v xs f t (intsAt_below h hW) hl ha hf ht
  rw[hps]at this
  exact this
 have HRO:Hid (∀W vl,Below w.heap.size w W→IntsAt W vl (ps.map fun p:Nat=>(p:Int))→Calls Tryz.prog 126 #[v,vl] W fun e w'=>∃v',e = .returned v'∧OwnF w' W.heap.size v' R∧Below W.heap.size W w'):=fun W vl hW hv=>by
  have:=runsOf_any (intsAt_below h hW) hl ha hv (by omega) hpo
  rw[hR]at this
  exact this
 have HCA:Hid (∀(W:World) (p:Nat),Below w.heap.size w W→p≤xs.length→Calls Tryz.prog 128 #[v,.int .i64 p] W fun e w'=>e = .returned (.int .i64 (chunkAt xs p))∧Below W.heap.size W w'):=fun W p hW hp=>implChunkAt W v xs p (intsAt_below h hW) hl ha ⟨by omega,by omega⟩
 have HFIN:Hid _:=hfin
 have HWL:Hid (∀k,(writeT xs R k).length=xs.length):=writeT_length hRI
 have HWN:Hid (∀k,k<R.length→writeT xs R (k+1)=finR xs (writeT xs R k) (R.getD k (0,0)).1 (R.getD k (0,0)).2):=fun k hk=>writeT_next xs hk
 have HRI:Hid _:=hRI
 rw[hfin]
 obtain⟨wk,hwk⟩:∃wk,walkOk xs f t=wk:=⟨_,rfl⟩
 rw[hwk]at HWK
 rw[hwk]
 obtain⟨a,cap,rfl,hlc,hcm,_,_⟩:=h
 clear hfin hwk hps hpw hpo hR hRI
 go_enter Tryz.func102,Tryz.ntmps102
 go_wp2_with fail
 refine RW.mono ?_
 rintro e w1 ⟨rfl,hw1⟩
 rw[hw1]
 clear hw1 w1 RW
 go_wp2_with fail
 refine CP.mono ?_
 rintro e w1 ⟨rfl,F1,b1⟩
 have WK:=HWK.out w1 b1
 have HF1:Hid _:=F1
 have HB1:Hid (Below w.heap.size w w1):=b1
 have l1:=lt_of_block F1
 clear CP F1 b1 HWK
 go_wp2_with fail
 refine WK.mono ?_
 rintro e w2 ⟨v2,rfl,O2,b2⟩
 obtain⟨va2,vc2,rfl,_,_,_,_⟩:=own_ints O2
 have HF2:Hid _:=full_bel HF1.out b2
 have B2:=HB1.out.trans (b2.mono HB1.out.size)
 have FI:=HFI.out w2 B2
 have HB2:Hid (Below w.heap.size w w2):=B2
 have s2:=b2.size
 clear WK O2 b2 B2 HF1 HB1 HFI
 go_wp2_with fail
 refine FI.mono ?_
 rintro e w3 ⟨v3,rfl,O3,b3⟩
 have I3:=own_ints O3
 have HF3:Hid _:=full_bel HF2.out b3
 have B3:=HB2.out.trans (b3.mono HB2.out.size)
 have RO:=HRO.out w3 v3 B3 I3
 obtain⟨va3,vc3,rfl,_,_,_,_⟩:=I3
 simp only[List.length_map]at RO
 have HB3:Hid (Below w.heap.size w w3):=B3
 have s3:=b3.size
 clear FI O3 b3 B3 HF2 HB2 HRO
 go_wp2_with fail
 refine RO.mono ?_
 rintro e w4 ⟨v4,rfl,O4,b4⟩
 have HF4:Hid (Full w4 w.heap.size (writeT xs R 0)):=full_bel HF3.out b4
 have HB4:Hid (Below w.heap.size w w4):=HB3.out.trans (b4.mono HB3.out.size)
 obtain⟨ra,rc,hrs⟩:=ownF_slice O4
 subst hrs
 have HO4:Hid _:=O4
 have s4:=b4.size
 have hw3:w.heap.size<w3.heap.size:=by omega
 clear RO O4 b4 HF3 HB3
 go_wp2_with fail
 go_loopw [32] (fun i wr=>∃(k:Nat),k≤R.length∧i = .int .i64 (k:Int)∧Full wr w.heap.size (writeT xs R k)∧OwnF wr w3.heap.size (.slice ra R.length rc) R∧Below w.heap.size w wr) (fun i _=>R.length-(intOf i).toNat)
 case atStart=>exact⟨0,Nat.zero_le _,rfl,HF4.out,HO4.out,HB4.out⟩
 case round=>
  obtain⟨k,hk,rfl,hF,hO,hB⟩:=hrel
  by_cases hlt:k<R.length
  ·have hlt':(k:Int)<(R.length:Int):=by omega
   obtain⟨g,rfl,hgl,hgb,x0,x1⟩:=ownF_cells hO hlt
   have hin:=HRI.out (R.getD k (0,0)) (by rw[List.getD_eq_getElem?_getD,List.getElem?_eq_getElem hlt];exact List.getElem_mem hlt)
   have HN:Hid _:=HWN.out k hlt
   have hwl:=HWL.out k
   generalize R.getD k (0,0)=cc at *
   obtain⟨a0,n0⟩:=cc
   simp only at x0 x1 hin HN
   generalize writeT xs R k=ys at *
   have hca:chunkAt xs a0=chunk xs a0:=chunkAt_in (by simp only[okAt,Bool.and_eq_true];exact⟨d1,by simp[atOk];omega⟩)
   have sr:=hB.size
   have BX:Below w.heap.size w (wr.alloc (fcb a0 n0)).drew:=(hB.alloc sr _).drew
   have CA:=HCA.out _ a0 BX (by omega)
   rw[hca]at CA
   obtain⟨y0,y1⟩:=fc_cells (heap_alloc_new wr (fcb a0 n0))
   unfold finR at HN
   have HALL:Hid (∀w5,Below (wr.alloc (fcb a0 n0)).drew.heap.size (wr.alloc (fcb a0 n0)).drew w5→(w5.cell? ⟨wr.heap.size,0,none⟩=some (.int .i64 (a0:Int))∧w5.cell? ⟨wr.heap.size,1,none⟩=some (.int .i64 (n0:Int)))∧Full w5 w.heap.size ys∧OwnF w5 w3.heap.size (.slice (some ⟨g,0,none⟩) R.length rc) R∧Below w.heap.size w w5):=fun w5 b5=>by
    have b6:Below wr.heap.size wr w5:=((Below.refl wr.heap.size wr).alloc (Nat.le_refl _) (fcb a0 n0)).trans (Below.mono ⟨b5.os,b5.tape,b5.output,b5.size,b5.block⟩ (by simp))
    exact⟨fc_cells ((b5.block wr.heap.size (show wr.heap.size<(wr.alloc (fcb a0 n0)).heap.size by simp)).trans (heap_alloc_new wr (fcb a0 n0))),full_bel hF b6,ownF_below hO b6,hB.trans (b6.mono sr)⟩
   obtain⟨ch,hch⟩:∃ch,chunk xs a0=ch:=⟨_,rfl⟩
   rw[hch]at CA HN
   clear hca hch hF hO hB BX
   by_cases he:(n0:Int)=ch
   ·have he':((n0:Int) != ch)=false:=by simp[he]
    rw[if_pos he]at HN
    have HE:Hid _:=he
    clear he
    go_wp2_with fail
    go_region_law (go_simp;go_at_call 128;refine CA.mono ?_;clear CA;rintro e w5 ⟨rfl,b5⟩;obtain⟨⟨z0,z1⟩,zz⟩:=HALL.out w5 b5;have HZ:Hid _:=zz;clear zz b5 HALL)
    all_goals go_wp2
    all_goals exact⟨⟨k+1,by omega,by go_num,by rw[HN.out];exact HZ.out.1,HZ.out.2⟩,by simp[intOf];omega⟩
   ·have he':((n0:Int) != ch)=true:=by simp[he]
    rw[if_neg he]at HN
    go_wp2_with fail
    go_region_law (go_simp;go_at_call 128;refine CA.mono ?_;clear CA;rintro e w5 ⟨rfl,b5⟩;obtain⟨⟨z0,z1⟩,zz⟩:=HALL.out w5 b5;have HZ:Hid _:=zz;clear zz b5 HALL)
    all_goals go_wp2_with fail
    all_goals refine (putEmpty_any HZ.out.1 hwl hl hin.1 hin.2 (Nat.le_refl _)).mono ?_
    all_goals rintro e w6 ⟨rfl,F6,G6⟩
    all_goals have HST:Hid (Full w6 w.heap.size (writeT xs R (k+1))∧OwnF w6 w3.heap.size (.slice (some ⟨g,0,none⟩) R.length rc) R∧Below w.heap.size w w6):=⟨by rw[HN.out];exact F6,ownF_grown HZ.out.2.1 G6 hw3,HZ.out.2.2.grown G6 HZ.out.2.2.size (fun j e=>by cases e;exact Nat.le_refl _)⟩
    all_goals clear F6 G6 HZ
    all_goals go_wp2
    all_goals exact⟨⟨k+1,by omega,by go_num,HST.out⟩,by simp[intOf];omega⟩
  ·have e:k=R.length:=by omega
   subst e
   have HFF:Hid (rows.Own wr w.heap.size (.slice (some ⟨w.heap.size,0,none⟩) xs.length xs.length) (writeT xs R R.length)):=by
    have:=full_own hF (Nat.le_refl w.heap.size) (show _≤maxLen by rw[HWL.out];exact hm)
    have e:=HWL.out R.length
    rw[←e]
    exact this
   have HB:Hid _:=hB
   have hlt':¬(R.length:Int)<(R.length:Int):=by omega
   clear hF hB hO
   go_wp2
   go_ret2
   exact⟨_,rfl,HFF.out,HB.out⟩
theorem implCoalesced (w:World) (v:Value) (xs:List Int) (f:Int) (t:Int) (h:IntsAt w v xs) (hl:xs.length≤1048576) (ha:AllI xs) (hf:I64 f) (ht:I64 t) :
    Calls Tryz.prog 102 #[v,.int .i64 f,.int .i64 t] w fun e w'=>∃v',e = .returned (.tuple #[v',.bool (walkOk xs f t)])∧rows.Own w' w.heap.size v' (coal xs f t)∧Below w.heap.size w w':=by
 cases d1:rowOk xs
 ·have eo:walkOk xs f t=false:=by simp[walkOk,walkR,rangeOk,d1]
  have ew:coal xs f t=[]:=by simp[coal,eo,d1]
  rw[eo,ew]
  have RW:=isRow_any h
  rw[d1]at RW
  obtain⟨a,cap,rfl,hlc,hcm,_,_⟩:=h
  clear eo ew
  go_enter Tryz.func102,Tryz.ntmps102
  go_wp2_with fail
  refine RW.mono ?_
  rintro e w1 ⟨rfl,hw1⟩
  rw[hw1]
  clear hw1 w1 RW
  go_wp2
  go_ret2
  exact⟨_,rfl,own_nil _ _,Below.refl _ _⟩
 ·exact coal_yes f t h hl ha hf ht d1
end Go.Proofs.YtemlagfaaibenaaGreat.walks
