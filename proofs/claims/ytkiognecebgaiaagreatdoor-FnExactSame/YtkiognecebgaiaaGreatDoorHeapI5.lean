/-
  Chapter 9 as the program has it: free chunks left out (slices.DeleteFunc).
  Made from the template HeapI5.
-/
import Derived.Test.YtkiognecebgaiaaGreatDoorM9
namespace Go.Proofs.YtkiognecebgaiaaGreatDoor.hp
open Go.RowKit rows heads words walks
set_option maxRecDepth 100000
set_option linter.unusedVariables false
set_option linter.unusedSimpArgs false
theorem zeroPd:∀w,(zeroValue 197).run Tryz.prog w = .ok (pdv pdD) w:=fun w=>by go_simp
theorem wpList_clearP {w:World} {ops:Array Oper} {rest:List Oper} {o:Oper} {act:Act} {Q:Exit→Act→World→Prop} {base g k n cap c:Nat} {ds:List Pd}
    (hgd:o.guard=none) (s:Operand) (ho:o.op = .call { callee:=.builtin .clear,args:=#[s],argTypes:=#[151] })
    (hs:act.eval s = .slice (some ⟨g,k*8,none⟩) n c) (hown:w.ownsRow base 197 8 (.slice (some ⟨g,0,none⟩) k cap) k (cellsP ds)) (hkn:k+n≤cap)
    (hK:∀w',w'.ownsRow base 197 8 (.slice (some ⟨g,0,none⟩) k cap) k (cellsP ds)→Ch [g] w w'→wpList Tryz.prog ops Q rest (act.put o.dst (.tuple #[])) w') :
    wpList Tryz.prog ops Q (o :: rest) act w:=by
 obtain⟨h0,⟨h1,_⟩|⟨g',cap',cur,h1,hg,hh,hle,hm,hsz,ht⟩⟩:=hown
 ·cases h1
 injection h1 with e1 e2 e3
 injection e1 with e1
 injection e1 with e1
 subst e1 e3
 refine wpList_plain hgd fun K hK' => ?_
 obtain⟨w',hrun,r1,r2,r3⟩:=copyk.run_clear_k (P:=Tryz.prog) w 151 197 o.type (pdv pdD) 8 Tryz.underlying151 zeroPd (some ⟨g,k*8,none⟩) n c g (k*8) cur.toList 197 (by simpa using hh) (fun _=>rfl) (by simp[Builtin.zeroCells,Value.cells]) (by
  intro v hv
  simp only[Builtin.zeroCells,Value.cells]at hv
  simp at hv
  obtain⟨j,hj,rfl⟩:=hv
  have:j % 8<8:=Nat.mod_lt _ (by decide)
  rcases (show j % 8=0∨j % 8=1∨j % 8=2∨j % 8=3∨j % 8=4∨j % 8=5∨j % 8=6∨j % 8=7 by omega) with h|h|h|h|h|h|h|h<;>rw[h]<;>rfl) (by simp[hsz];omega)
 unfold Oper.wp
 simp[execOp,ho,resolve,invoke,builtin,hs,hrun,Result.andThen]
 have b0:=r3 (Below.refl 0 w) (Nat.zero_le _)
 refine hK' _ _ (hK w' ⟨h0,.inr ⟨g,cap,_,rfl,hg,r1,hle,hm,?_,?_⟩⟩ ⟨b0.os,b0.tape,b0.output,b0.size,fun j _ hj=>r2 j (fun e=>hj (by rw[e];simp))⟩)
 ·split
  ·simpa using hsz
  ·rw[List.size_toArray,length_splice _ _ _ (by simp[Builtin.zeroCells,Value.cells,hsz];omega)]
   simpa using hsz
 ·split
  ·simpa using ht
  ·rw[←ht]
   simp only[splice]
   exact List.take_left' (by simp[hsz];omega)
theorem ownP_take {W:World} {base g n cap k:Nat} {ds:List Pd} (h:OwnP W base (.slice (some ⟨g,0,none⟩) n cap) ds) (hn:n=ds.length) (hk:k≤ds.length):W.ownsRow base 197 8 (.slice (some ⟨g,0,none⟩) k cap) k (cellsP (ds.take k)):=by
 obtain⟨h0,⟨h1,_⟩|⟨g',cap',cur,h1,hg,hh,hle,hm,hsz,ht⟩⟩:=h
 ·cases h1
 injection h1 with e1 e2 e3
 injection e1 with e1
 injection e1 with e1
 subst e1 e3
 have e:cellsP (ds.take k)=(cellsP ds).take (k*8):=by
  have:cellsP ds=cellsP (ds.take k)++cellsP (ds.drop k):=by rw[←cellsP_append,List.take_append_drop]
  rw[this,List.take_left' (by rw[cellsP_length,List.length_take];congr 1;omega)]
 refine⟨by rw[cellsP_length,List.length_take];congr 1;omega,.inr ⟨g,cap,cur,rfl,hg,hh,by omega,hm,hsz,?_⟩⟩
 rw[e,←ht,List.take_take]
 congr 1
 omega
def keepP (ds:List Pd):List Pd:=ds.filter (fun d => !freeP d)
theorem keepP_all {ds:List Pd} (h:∀m,m<ds.length→freeP (ds.getD m pdD)=false):keepP ds=ds:=by
 unfold keepP
 rw[List.filter_eq_self]
 intro d hd
 obtain⟨i,hi,rfl⟩:=List.getElem_of_mem hd
 have:=h i hi
 rw[List.getD_eq_getElem?_getD,List.getElem?_eq_getElem hi]at this
 simpa using this
theorem keepP_next {ds:List Pd} {j:Nat} (hj:j<ds.length):keepP (ds.take (j+1))=keepP (ds.take j)++(if freeP (ds.getD j pdD)=true then [] else [ds.getD j pdD]):=by
 unfold keepP
 rw[List.take_add_one,List.filter_append,List.getElem?_eq_getElem hj,List.getD_eq_getElem?_getD,List.getElem?_eq_getElem hj]
 simp only[Option.toList_some,Option.getD_some]
 congr 1
 cases h:freeP ds[j]<;>simp[h]
structure Del (ds E:List Pd) (i j:Nat):Prop where
 len:E.length=ds.length
 lt:i<j
 le:j≤ds.length
 kept:E.take i=keepP (ds.take j)
 rest:E.drop j=ds.drop j
 sl:SlicesP E
theorem Del.at_j {ds E:List Pd} {i j:Nat} (h:Del ds E i j) (hj:j<ds.length):E.getD j pdD=ds.getD j pdD:=by
 have:=congrArg (fun l=>l[0]?) h.rest
 simp only[List.getElem?_drop,Nat.add_zero]at this
 rw[List.getD_eq_getElem?_getD,List.getD_eq_getElem?_getD,this]
theorem Del.skip {ds E:List Pd} {i j:Nat} (h:Del ds E i j) (hj:j<ds.length) (hf:freeP (ds.getD j pdD)=true):Del ds E i (j+1):=by
 refine⟨h.len,by have:=h.lt;omega,by omega,?_,?_,h.sl⟩
 ·rw[keepP_next hj,if_pos hf,List.append_nil];exact h.kept
 ·have:=congrArg (List.drop 1) h.rest
  simpa [List.drop_drop,Nat.add_comm] using this
theorem Del.take1 {ds E:List Pd} {i j:Nat} (h:Del ds E i j) (hj:j<ds.length) (hf:freeP (ds.getD j pdD)=false) (hs:∃a n c,(ds.getD j pdD).u = .slice a n c):Del ds (E.set i (ds.getD j pdD)) (i+1) (j+1):=by
 have hl:=h.len
 have hi:=h.lt
 refine⟨by simpa using hl,by omega,by omega,?_,?_,?_⟩
 ·rw[keepP_next hj,if_neg (by rw[hf];decide),←h.kept]
  apply List.ext_getElem?
  intro q
  simp only[List.getElem?_take,List.getElem?_set,List.getElem?_append,List.length_take]
  grind
 ·have:=congrArg (List.drop 1) h.rest
  rw[List.drop_drop,List.drop_drop]at this
  rw[List.drop_set_of_lt (by omega)]
  exact this
 ·intro d hd
  rcases List.mem_or_eq_of_mem_set hd with hd|rfl
  ·exact h.sl d hd
  ·exact hs
set_option maxHeartbeats 16000000 in
theorem deleteFree_any {w:World} {base:Nat} {v:Value} {ds:List Pd} (h:OwnP w base v ds) (hs:SlicesP ds) (hl:ds.length≤1000) (hb:base≤w.heap.size) :
    Calls Tryz.prog 176 #[v,.func (.methodOf 197 "loop.example/g00337/impl.isFree") #[] #[]] w fun e w'=>∃v',e = .returned v'∧OwnP w' base v' (keepP ds)∧(∀b,v'.ownBlock=some b→v.ownBlock=some b)∧Ch (blk v) w w':=by
 have IX:=indexFree_any (ownP_at h) hs (by omega)
 obtain⟨R,hR⟩:∃R,keepP ds=R:=⟨_,rfl⟩
 rw[hR]
 have HR:Hid _:=hR
 have HO:Hid _:=h
 have HS:Hid _:=hs
 by_cases hf:∀m,m<ds.length→freeP (ds.getD m pdD)=false
 ·rw[idxP_no hf]at IX
  have HF:Hid (R=ds):=by show R=ds;rw[←hR];exact keepP_all hf
  obtain⟨a,cap,rfl⟩:=pds_slice (ownP_at h)
  clear hf hR h hs
  go_enter Tryz.func176,Tryz.ntmps176
  go_wp2_with (go_at_call 193;refine IX.mono ?_;clear IX;rintro e w3 ⟨rfl,b3⟩;have HB3:Hid _:=b3;clear b3)
  go_ret
  rw[HF.out]
  exact⟨_,rfl,ownP_below HO.out HB3.out,fun b e=>e,ch_below HB3.out⟩
 ·obtain⟨i0,hi0,hfi,hmin⟩:∃i0,i0<ds.length∧freeP (ds.getD i0 pdD)=true∧∀m,m<i0→freeP (ds.getD m pdD)=false:=by
    cases e:ds.findIdx? freeP with
    |none=>
     rw[List.findIdx?_eq_none_iff]at e
     exact absurd (fun m hm=>by
      rw[List.getD_eq_getElem?_getD,List.getElem?_eq_getElem hm]
      simpa using e _ (List.getElem_mem hm)) hf
    |some i0=>
     rw[List.findIdx?_eq_some_iff_getElem]at e
     obtain⟨h1,h2,h3⟩:=e
     refine⟨i0,h1,by rw[List.getD_eq_getElem?_getD,List.getElem?_eq_getElem h1];exact h2,fun m hm => ?_⟩
     rw[List.getD_eq_getElem?_getD,List.getElem?_eq_getElem (by omega)]
     simpa using h3 m hm
  rw[idxP_at hi0 hfi hmin]at IX
  have D0:Del ds ds i0 (i0+1):=by
   refine⟨rfl,by omega,by omega,?_,rfl,hs⟩
   rw[keepP_next hi0,if_pos hfi,List.append_nil]
   refine (keepP_all fun m hm => ?_).symm
   rw[List.length_take]at hm
   have:=hmin m (by omega)
   rwa [List.getD_eq_getElem?_getD,List.getElem?_take,if_pos (by omega),←List.getD_eq_getElem?_getD]
  obtain⟨a,cap,rfl⟩:=pds_slice (ownP_at h)
  obtain⟨g,rfl⟩:∃g,a=some ⟨g,0,none⟩:=by
   obtain⟨_,⟨h1,h2⟩|⟨g,cap',cur,h1,_⟩⟩:=h
   ·simp at h1;omega
   ·injection h1 with h1;exact⟨g,h1⟩
  obtain⟨_,hcl,hcm⟩:=pds_cap (ownP_at h)
  have HD0:Hid _:=D0
  have hgl:base≤g∧g<w.heap.size:=blk_lt h g (by simp[blk,Value.ownBlock])
  clear hf hR h hs hmin hfi D0
  go_enter Tryz.func176,Tryz.ntmps176
  go_wp2_with fail
  refine IX.mono ?_
  clear IX
  rintro e w1 ⟨rfl,b1⟩
  have HO1:Hid _:=ownP_below HO.out b1
  have HC1:Hid (Ch [g] w w1):=ch_below b1
  have s1:=b1.size
  have hm1:((i0:Int) == -1)=false:=by rw[beq_eq_false_iff_ne];omega
  clear b1 HO
  go_wp2_with fail
  go_loopw [5,6,7] (fun p q _ wr=>∃(i j:Nat) (E:List Pd),p = .int .i64 (i:Int)∧q = .int .i64 (j:Int)∧Del ds E i j∧OwnP wr base (.slice (some ⟨g,0,none⟩) ds.length cap) E∧Ch [g] w wr) (fun _ q _ _=>ds.length-(intOf q).toNat)
  case atStart=>exact⟨i0,i0+1,ds,rfl,by simp,HD0.out,HO1.out,HC1.out⟩
  case round=>
   obtain⟨i,j,E,rfl,rfl,hD,hO,hC⟩:=hrel
   clear HO1 HC1 HD0
   have hij:=hD.lt
   have hjl:=hD.le
   have hEl:=hD.len
   have HD:Hid _:=hD
   have HC:Hid _:=hC
   have HOE:Hid _:=hO
   by_cases hlt:j<ds.length
   ·have hlt':(j:Int)<(ds.length:Int):=by omega
    obtain⟨b',off',ea,_,k0,k1,k2,k3,k4,k5,k6,k7⟩:=pds_cell (ownP_at hO) (i:=j) (by omega)
    have e1:b'=g:=by injection ea with e;injection e with e1 e2;exact e1.symm
    have e2:off'=0:=by injection ea with e;injection e with e1 e2;exact e2.symm
    subst e1 e2
    rw[hD.at_j hlt]at k0 k1 k2 k3 k4 k5 k6 k7
    obtain⟨ua,un,uc,hu⟩:=HS.out (ds.getD j pdD) (by rw[List.getD_eq_getElem?_getD,List.getElem?_eq_getElem hlt];exact List.getElem_mem hlt)
    have HSK:Hid (freeP (ds.getD j pdD)=true→Del ds E i (j+1)):=fun e=>hD.skip hlt e
    have HTK:Hid (freeP (ds.getD j pdD)=false→Del ds (E.set i (ds.getD j pdD)) (i+1) (j+1)):=fun e=>hD.take1 hlt e ⟨ua,un,uc,hu⟩
    obtain⟨x,hx⟩:∃x,ds.getD j pdD=x:=⟨_,rfl⟩
    rw[hx]at k0 k1 k2 k3 k4 k5 k6 k7 hu HSK HTK
    obtain⟨s',f',c',h',p',m',u',pl'⟩:=x
    simp only at k0 k1 k2 k3 k4 k5 k6 k7 hu
    subst hu
    simp only[Nat.zero_add]at k0 k1 k2 k3 k4 k5 k6 k7
    obtain⟨X,hX⟩:∃X,X=wr.alloc (pdb (⟨s',f',c',h',p',m',.slice ua un uc,pl'⟩:Pd)):=⟨_,rfl⟩
    have BX:Below wr.heap.size wr X:=by rw[hX];exact (Below.refl _ _).alloc (Nat.le_refl _) _
    have TX:X.heap[wr.heap.size]? = some (pdb (⟨s',f',c',h',p',m',.slice ua un uc,pl'⟩:Pd)):=by rw[hX];exact heap_alloc_new wr _
    have IS:=isFreeP_any (⟨s',f',c',h',p',m',.slice ua un uc,pl'⟩:Pd) (ua:=ua) (un:=un) (uc:=uc) rfl X
    have MF:=meth_free s' f' c' h' p' m' ua un uc pl' X
    obtain⟨tb,htb⟩:∃tb,freeP (⟨s',f',c',h',p',m',.slice ua un uc,pl'⟩:Pd)=tb:=⟨_,rfl⟩
    rw[htb]at IS HSK HTK
    have cX:X.cell? ⟨wr.heap.size,0,none⟩=some (.int .i64 s')∧X.cell? ⟨wr.heap.size,1,none⟩=some (.int .i64 f')∧X.cell? ⟨wr.heap.size,2,none⟩=some (.int .i64 c')∧X.cell? ⟨wr.heap.size,3,none⟩=some (.int .i64 h')∧X.cell? ⟨wr.heap.size,4,none⟩=some (.bool p')∧X.cell? ⟨wr.heap.size,5,none⟩=some (.bool m')∧X.cell? ⟨wr.heap.size,6,none⟩=some (.slice ua un uc)∧X.cell? ⟨wr.heap.size,7,none⟩=some (.int .i64 pl'):=by
     unfold World.cell?
     rw[TX]
     exact⟨rfl,rfl,rfl,rfl,rfl,rfl,rfl,rfl⟩
    obtain⟨q0,q1,q2,q3,q4,q5,q6,q7⟩:=cX
    have HX:Hid _:=hX
    have HBX:Hid _:=BX
    have HTX:Hid _:=TX
    have szr:wr.heap.size<X.heap.size:=lt_of_block TX
    clear htb hx hD hO hC hX BX TX
    cases tb with
    |true=>
     have HV:Hid _:=HSK.out rfl
     clear HSK HTK
     go_upto_region 8 with fail
     rw[←HX.out]
     go_wp2_with (go_at_call 177;refine IS.mono ?_;clear IS;rintro e w3 ⟨rfl,b3⟩;have HB3:Hid (Below wr.heap.size wr w3):=HBX.out.trans (b3.mono (Nat.le_of_lt szr));clear b3)
     exact⟨⟨i,j+1,E,rfl,by go_num,HV.out,ownP_below HOE.out HB3.out,HC.out.trans (ch_below HB3.out)⟩,by simp[intOf];omega⟩
    |false=>
     have HV:Hid _:=HTK.out rfl
     clear HSK HTK
     go_upto_region 8 with fail
     rw[←HX.out]
     go_wp2_with fail
     refine IS.mono ?_
     clear IS
     rintro e w3 ⟨rfl,b3⟩
     have B3:Below wr.heap.size wr w3:=HBX.out.trans (b3.mono (Nat.le_of_lt szr))
     have O3:=ownP_below HOE.out B3
     have T3:=(b3.block wr.heap.size szr).trans HTX.out
     have cX:w3.cell? ⟨wr.heap.size,0,none⟩=some (.int .i64 s')∧w3.cell? ⟨wr.heap.size,1,none⟩=some (.int .i64 f')∧w3.cell? ⟨wr.heap.size,2,none⟩=some (.int .i64 c')∧w3.cell? ⟨wr.heap.size,3,none⟩=some (.int .i64 h')∧w3.cell? ⟨wr.heap.size,4,none⟩=some (.bool p')∧w3.cell? ⟨wr.heap.size,5,none⟩=some (.bool m')∧w3.cell? ⟨wr.heap.size,6,none⟩=some (.slice ua un uc)∧w3.cell? ⟨wr.heap.size,7,none⟩=some (.int .i64 pl'):=by
      unfold World.cell?
      rw[T3]
      exact⟨rfl,rfl,rfl,rfl,rfl,rfl,rfl,rfl⟩
     clear q0 q1 q2 q3 q4 q5 q6 q7
     obtain⟨q0,q1,q2,q3,q4,q5,q6,q7⟩:=cX
     obtain⟨b4,o4,ea4,_,y0,y1,y2,y3,y4,y5,y6,y7⟩:=pds_cell (ownP_at O3) (i:=i) (by omega)
     have e1:b4=b':=by injection ea4 with e;injection e with e1 e2;exact e1.symm
     have e2:o4=0:=by injection ea4 with e;injection e with e1 e2;exact e2.symm
     subst e1 e2
     simp only[Nat.zero_add]at y0 y1 y2 y3 y4 y5 y6 y7
     generalize E.getD i pdD=old at y0 y1 y2 y3 y4 y5 y6 y7
     have O3':w3.ownsRow base 197 8 (.slice (some ⟨b4,0,none⟩) ds.length cap) ds.length (cellsP E):=by
      have:=O3
      unfold OwnP at this
      rwa [hEl]at this
     have fr:∀q,w3.frozen? ⟨b4,q,none⟩=false:=fun q=>World.ownsRow.frozenAt O3' q
     have f0:=fr (i*8)
     have f1:=fr (i*8+1)
     have f2:=fr (i*8+2)
     have f3:=fr (i*8+3)
     have f4:=fr (i*8+4)
     have f5:=fr (i*8+5)
     have f6:=fr (i*8+6)
     have f7:=fr (i*8+7)
     have hne:¬wr.heap.size=b4:=by have:=HC.out.size;omega
     have HOS:Hid (OwnP ((((((((w3.setCell ⟨b4,i*8,none⟩ (.int .i64 s')).setCell ⟨b4,i*8+1,none⟩ (.int .i64 f')).setCell ⟨b4,i*8+2,none⟩ (.int .i64 c')).setCell ⟨b4,i*8+3,none⟩ (.int .i64 h')).setCell ⟨b4,i*8+4,none⟩ (.bool p')).setCell ⟨b4,i*8+5,none⟩ (.bool m')).setCell ⟨b4,i*8+6,none⟩ (.slice ua un uc)).setCell ⟨b4,i*8+7,none⟩ (.int .i64 pl')) base (.slice (some ⟨b4,0,none⟩) ds.length cap) (E.set i (⟨s',f',c',h',p',m',.slice ua un uc,pl'⟩:Pd))):=by
      show World.ownsRow _ _ _ _ _ _ _
      rw[←cellsP_set,List.length_set,hEl]
      exact (World.ownsRow.stored (World.ownsRow.stored (World.ownsRow.stored (World.ownsRow.stored (World.ownsRow.stored (World.ownsRow.stored (World.ownsRow.stored (World.ownsRow.stored O3' _ _).1 _ _).1 _ _).1 _ _).1 _ _).1 _ _).1 _ _).1 _ _).1
     have HCS:Hid (Ch [b4] w ((((((((w3.setCell ⟨b4,i*8,none⟩ (.int .i64 s')).setCell ⟨b4,i*8+1,none⟩ (.int .i64 f')).setCell ⟨b4,i*8+2,none⟩ (.int .i64 c')).setCell ⟨b4,i*8+3,none⟩ (.int .i64 h')).setCell ⟨b4,i*8+4,none⟩ (.bool p')).setCell ⟨b4,i*8+5,none⟩ (.bool m')).setCell ⟨b4,i*8+6,none⟩ (.slice ua un uc)).setCell ⟨b4,i*8+7,none⟩ (.int .i64 pl'))):=HC.out.trans ((ch_below B3).trans ((((((((one_ch _ _ _ _).trans (one_ch _ _ _ _)).trans (one_ch _ _ _ _)).trans (one_ch _ _ _ _)).trans (one_ch _ _ _ _)).trans (one_ch _ _ _ _)).trans (one_ch _ _ _ _)).trans (one_ch _ _ _ _)))
     have hilt:(i:Int)<(ds.length:Int):=by omega
     clear fr O3 O3' T3 b3 B3 HOE HTX HBX k0 k1 k2 k3 k4 k5 k6 k7
     go_wp2
     exact⟨⟨i+1,j+1,_,by go_num,by go_num,HV.out,HOS.out,HCS.out⟩,by simp[intOf];omega⟩
   ·have hlt':¬(j:Int)<(ds.length:Int):=by omega
    have ej:j=ds.length:=by omega
    have hkeep:E.take i=R:=by rw[hD.kept,←HR.out,ej,List.take_of_length_le (Nat.le_refl _)]
    have OT:=ownP_take (k:=i) hO hEl.symm (by omega)
    rw[hkeep]at OT
    have HRl:Hid (R.length=i):=by show R.length=i;rw[←hkeep,List.length_take];omega
    have HOT:Hid _:=OT
    have hci:¬cap=i:=by omega
    have hin:(i:Int)≤(ds.length:Int):=by omega
    have hic:(i:Int)≤(cap:Int):=by omega
    clear hD hO hC HOE OT hkeep ej HD
    go_wp2_with (refine wpList_clearP rfl (.tmp 38) rfl (g:=g) (k:=i) (n:=ds.length-i) (c:=cap-i) (by first|rfl|(simp[go_sem];done)) HOT.out (by omega) ?_;intro w5 h5 c5;have HO5:Hid _:=h5;have HC5:Hid (Ch [g] w w5):=HC.out.trans c5;clear h5 c5)
    go_ret
    refine⟨_,rfl,?_,fun b e=>e,HC5.out⟩
    unfold OwnP
    rw[HRl.out]
    exact HO5.out
end Go.Proofs.YtkiognecebgaiaaGreatDoor.hp
