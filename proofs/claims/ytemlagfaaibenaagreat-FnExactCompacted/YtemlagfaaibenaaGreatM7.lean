/-
  Chapter 8 as the specification has it: the places of free chunks. What may change while a drawn region with a store is run: nothing of what there was but one block, which once it is as wanted stays so. Chapter 8 as the specification has it: free chunks made one. Chapter 8 as the specification has it
-/
import Derived.Test.YtemlagfaaibenaaGreatM6
import Derived.Test.YtemlagfaaibenaaGreatM1
import Derived.Maps.AppendAt
import Derived.Test.YtemlagfaaibenaaGreatM5
import Derived.Test.YtemlagfaaibenaaGreatM2
import Derived.Test.YtemlagfaaibenaaGreatM4
import Derived.Laws.AppendOwnNone
import Derived.Lib.AppendZerosOnto
import Derived.Deep.RegionLaw
import Derived.Lib.Overlaps
import Derived.Test.YtemlagfaaibenaaGreatWordsAll
import Derived.Test.YtemlagfaaibenaaGreatWalkS
namespace Go.Proofs.YtemlagfaaibenaaGreat.walks
open Go.RowKit rows heads words
set_option maxRecDepth 100000
theorem grown_join {a b c:World} {r:Option Nat} (h:a.grownBy b r) (k:b.grownBy c r):a.grownBy c r:=
 ⟨k.os.trans h.os,k.tape.trans h.tape,k.output.trans h.output,Nat.le_trans h.size k.size,fun j hj hn=>(k.block j (Nat.lt_of_lt_of_le hj h.size) hn).trans (h.block j hj hn)⟩
theorem app_int {w w1:World} {base:Nat} {v v':Value} {o:Obj} {xs:List Int} {x:Int} (hown:w1.ownsRow base 2 1 v' (xs.length+1) (cellsOf xs++[.int .i64 x])) (hgrow:(w.alloc o).grownBy w1 v.ownBlock) (hat:v'.ownBlock=v.ownBlock∨v'.ownBlock=some (w.alloc o).heap.size) :
    rows.Own w1 base v' (xs++[x])∧w.grownBy w1 v.ownBlock∧∀k,v'.ownBlock=some k→v.ownBlock=some k∨w.heap.size<k:=
 ⟨own_snoc hown,grown_join (World.grownBy_alloc w o _) hgrow,fun k e=>by
  rcases hat with h|h
  ·exact .inl (h▸e)
  ·right;rw[h]at e;injection e with e;simp at e;omega⟩
theorem one_int (w:World) (x:Int):∀i u,[Value.int .i64 x][i]? = some u→(w.alloc (.cells #[.int .i64 x] 2)).cell? ((⟨w.heap.size,0,none⟩:Addr).add i)=some u:=by
 intro j u hj
 match j,hj with
 |0,hj=>simp at hj;subst hj;simp[Addr.add]
theorem filter_next {L:List Int} {p:Int→Bool} {k:Nat} (hk:k<L.length):(L.take (k+1)).filter p=(L.take k).filter p++(if p (L.getD k 0)=true then [L.getD k 0] else []):=by
 rw[List.take_add_one,List.filter_append,List.getElem?_eq_getElem hk,List.getD_eq_getElem?_getD,List.getElem?_eq_getElem hk]
 simp only[Option.toList_some,Option.getD_some]
 congr 1
 cases h:p L[k]<;>simp[h]
end Go.Proofs.YtemlagfaaibenaaGreat.walks
namespace Go.Proofs.YtemlagfaaibenaaGreat.hp
open Go.RowKit rows heads words walks region
set_option linter.unusedVariables false
theorem ch_cell {S:List Nat} {w w':World} {p:Addr} (h:Ch S w w') (hl:p.block<w.heap.size) (hn:p.block ∉ S):w'.cell? p=w.cell? p:=by
 unfold World.cell?
 rw[h.block _ hl hn]
end Go.Proofs.YtemlagfaaibenaaGreat.hp
namespace Go.Proofs.YtemlagfaaibenaaGreat.walks
open Go.RowKit rows heads words
set_option maxRecDepth 100000
end Go.Proofs.YtemlagfaaibenaaGreat.walks
namespace Go.Proofs.YtemlagfaaibenaaGreat.walks
open Go.RowKit rows heads words
set_option maxRecDepth 100000
set_option linter.unusedVariables false
theorem gtr {a w w':World} {row:Option Nat} (h:a.grownBy w row) (k:w.grownBy w' row):a.grownBy w' row:=
 ⟨k.os.trans h.os,k.tape.trans h.tape,k.output.trans h.output,Nat.le_trans h.size k.size,fun j hj hn=>(k.block j (Nat.lt_of_lt_of_le hj h.size) hn).trans (h.block j hj hn)⟩
theorem gset (W:World) (g i:Nat) (v:Value):W.grownBy (W.setCell ⟨g,i,none⟩ v) (some g):=⟨rfl,rfl,rfl,by simp,fun j _ hn=>Below.heap_setCell W _ v j (fun e=>hn (by simp[e]))⟩
set_option maxHeartbeats 4000000 in
theorem l4Free_g {w:World} {base g len cap k n:Nat} {xs:List Int} (hO:w.ownsRow base 2 1 (.slice (some ⟨g,0,none⟩) len cap) len (cellsOf xs)) (hx:xs.length=len) (hl:len≤1048576) (hg:base≤g) (hbw:base≤w.heap.size) (h2:2≤n) (hkn:k+n≤len) :
    Calls Tryz.prog 54 #[.slice (some ⟨g,0,none⟩) len cap,.int .i64 k,.int .i64 n] w fun e w'=>(∃v',e = .returned v')∧w'.ownsRow base 2 1 (.slice (some ⟨g,0,none⟩) len cap) len (cellsOf (freeR xs k n))∧w.grownBy w' (some g):=by
 have hok6:hok 0 6 0 0 false false=true:=by decide
 go_enter Tryz.func54,Tryz.ntmps54
 go_wp2_with fail
 go_loopw [6] (fun i wr=>∃j:Nat,j≤n∧i = .int .i64 (j:Int)∧wr.ownsRow base 2 1 (.slice (some ⟨g,0,none⟩) len cap) len (cellsOf (fill xs k j 0))∧w.grownBy wr (some g)) (fun i _=>n-(intOf i).toNat)
 case atStart=>exact⟨0,by omega,by simp,by rw[fill_zero];exact hO,World.grownBy.refl _ _⟩
 case round=>
  obtain⟨j,hj,rfl,Or,Br⟩:=hrel
  by_cases hlt:j<n
  ·have hlt':(j:Int)<(n:Int):=by omega
   have c0:=World.ownsRow.cellAt Or (k+j) (by omega)
   have c1:=World.ownsRow.frozenAt Or (k+j)
   have S:=(World.ownsRow.stored Or (k+j) (.int .i64 0)).1
   have e1:(cellsOf (fill xs k j 0)).set (k+j) (.int .i64 0)=cellsOf (fill xs k (j+1) 0):=by
    rw[←fill_set (by omega)];simp[cellsOf,List.map_set]
   rw[e1]at S
   have HO:Hid _:=S
   have HB:Hid _:=gtr Br (gset wr g (k+j) (.int .i64 0))
   obtain⟨y,hy'⟩:∃y,(cellsOf (fill xs k j 0))[k+j]? = some y:=⟨_,List.getElem?_eq_getElem (by simp[fill_length (show k+j≤xs.length by omega)];omega)⟩
   rw[hy']at c0
   clear Or Br S e1 hy' hO
   go_wp2
   exact⟨⟨j+1,by omega,by go_num,HO,HB⟩,by simp[intOf];omega⟩
  ·have e:j=n:=by omega
   subst e
   have hlt':¬(j:Int)<(j:Int):=by omega
   have HO:Hid _:=Or
   have HB:Hid _:=Br
   have HFR:Hid (((fill xs k j 0).set k (pk 0 6 0 0 false false)).set (k+1) (j:Int)=freeR xs k j):=freeR_set (by omega) h2
   clear Or Br hO
   go_wp2_with fail
   refine (l2Packed_ok 0 6 0 0 false false wr hok6).mono ?_
   rintro e w2 ⟨rfl,hw2⟩
   have O2:w2.ownsRow base 2 1 (.slice (some ⟨g,0,none⟩) len cap) len (cellsOf (fill xs k j 0)):=by rw[hw2];exact World.ownsRow.alloc HO.out _
   have B2:w.grownBy w2 (some g):=by rw[hw2];exact gtr HB.out (World.grownBy_alloc wr _ _)
   clear hw2 HO HB
   have hfl:(fill xs k j 0).length=len:=by rw[fill_length (by omega)];exact hx
   have c0:=World.ownsRow.cellAt O2 k (by omega)
   have c1:=World.ownsRow.frozenAt O2 k
   have S:=(World.ownsRow.stored O2 k (.int .i64 (pk 0 6 0 0 false false))).1
   have d0:=World.ownsRow.cellAt S (k+1) (by omega)
   have d1:=World.ownsRow.frozenAt S (k+1)
   have S2:=(World.ownsRow.stored S (k+1) (.int .i64 (j:Int))).1
   have e1:((cellsOf (fill xs k j 0)).set k (.int .i64 (pk 0 6 0 0 false false))).set (k+1) (.int .i64 (j:Int))=cellsOf (freeR xs k j):=by rw[←HFR.out];simp[cellsOf,List.map_set]
   rw[e1]at S2
   have HO:Hid _:=S2
   have HB:Hid _:=gtr (gtr B2 (gset w2 g k (.int .i64 (pk 0 6 0 0 false false)))) (gset _ g (k+1) (.int .i64 (j:Int)))
   obtain⟨y,hy'⟩:∃y,(cellsOf (fill xs k j 0))[k]? = some y:=⟨_,List.getElem?_eq_getElem (by simp[hfl];omega)⟩
   rw[hy']at c0
   obtain⟨y2,hy2⟩:∃y,((cellsOf (fill xs k j 0)).set k (.int .i64 (pk 0 6 0 0 false false)))[k+1]? = some y:=⟨_,List.getElem?_eq_getElem (by simp[hfl];omega)⟩
   rw[hy2]at d0
   clear O2 B2 S S2 e1 hy' hy2 hlt' hlt HFR
   go_wp2
   go_end0
   exact⟨⟨_,rfl⟩,HO.out,HB.out⟩
end Go.Proofs.YtemlagfaaibenaaGreat.walks
namespace Go.Proofs.YtemlagfaaibenaaGreat.hp
open Go.RowKit rows
set_option linter.unusedVariables false
set_option linter.unusedSimpArgs false
theorem cellsI_append (xs ys:List Int):cellsOf (xs++ys)=cellsOf xs++cellsOf ys:=by simp[cellsOf]
theorem cellsI_one (xs:List Int):∀v ∈ cellsOf xs,v.oneCell'=true:=ints_oneCell .i64 xs
theorem zeroI (w:World):(zeroValue 2).run Tryz.prog w = .ok (.int .i64 0) w:=by kernel_rfl
end Go.Proofs.YtemlagfaaibenaaGreat.hp
namespace Go.Proofs.YtemlagfaaibenaaGreat.hp
open Go.RowKit rows heads words walks
set_option maxRecDepth 100000
set_option linter.unusedVariables false
set_option maxHeartbeats 4000000 in
theorem l15Word_any {w:World} {ta:Option Addr} {tn tc:Nat} {tl:List Int} (ht:IntsAt w (.slice ta tn tc) tl) {x:Int} (hx:isA x=true→(av x).toNat<tl.length) (hb:∀q,q<tl.length → -1≤tl.getD q 0∧tl.getD q 0≤1000) :
    Calls Tryz.prog 57 #[.slice ta tn tc,.int .i64 x] w fun e w'=>e = .returned (.int .i64 (if isA x=true∧0≤tl.getD (av x).toNat 0 then 4*tl.getD (av x).toNat 0+4 else x))∧w'=w:=by
 have SA:=sAddrOf_any x w
 cases dA:isA x
 ·rw[dA]at SA
  rw[if_neg (fun e=>by cases e.1)]
  generalize av x=a at *
  clear hx hb ht dA
  go_enter Tryz.func57,Tryz.ntmps57
  go_wp2_with (go_at_call 44;refine SA.mono ?_;clear SA;rintro e w3 ⟨rfl,hw3⟩;rw[hw3];clear hw3 w3)
  go_ret
  exact⟨rfl,rfl⟩
 ·rw[dA]at SA
  have ha:0≤av x:=by
   obtain⟨h3,h1,h2⟩:=isA_true dA
   unfold av
   rw[if_pos dA]
   omega
  have hl:=hx dA
  obtain⟨k,hk⟩:∃k:Nat,av x=(k:Int):=⟨(av x).toNat,by omega⟩
  rw[hk]at SA hl ⊢
  rw[Int.toNat_natCast]at hl ⊢
  obtain⟨a',c',e,_,_,_,hcs⟩:=ht
  injection e with e1 e2 e3
  subst e1 e2 e3
  obtain⟨b,off,ea,_,hcell⟩:=hcs (by omega)
  subst ea
  have c0:=hcell k hl
  have hbk:=hb k hl
  have hl':(k:Int)<(tl.length:Int):=by omega
  generalize tl.getD k 0=y at *
  clear hx hb hcs hcell dA ha hk
  by_cases hy:0≤y
  ·rw[if_pos ⟨rfl,hy⟩]
   go_enter Tryz.func57,Tryz.ntmps57
   go_wp2_with (go_at_call 44;refine SA.mono ?_;clear SA;rintro e w3 ⟨rfl,hw3⟩;rw[hw3];clear hw3 w3)
   go_ret
   exact⟨rfl,rfl⟩
  ·rw[if_neg (fun e=>hy e.2)]
   go_enter Tryz.func57,Tryz.ntmps57
   go_wp2_with (go_at_call 44;refine SA.mono ?_;clear SA;rintro e w3 ⟨rfl,hw3⟩;rw[hw3];clear hw3 w3)
   go_ret
   exact⟨rfl,rfl⟩
end Go.Proofs.YtemlagfaaibenaaGreat.hp
namespace Go.Proofs.YtemlagfaaibenaaGreat.hp
open Go.RowKit rows heads words walks
set_option maxRecDepth 100000
set_option linter.unusedVariables false
set_option linter.unusedSimpArgs false
theorem wpList_growI {w:World} {ops:Array Oper} {rest:List Oper} {o:Oper} {act:Act} {Q:Exit→Act→World→Prop} (hgd:o.guard=none) (s x:Operand) (ho:o.op = .call { callee:=.builtin .append,args:=#[s,x],argTypes:=#[22,3] })
    (hs:act.eval s = .slice none 0 0) (k:Nat) (h0:0<k) (hk:k≤100000) (hx:act.eval x = .int .i64 (k:Int))
    (hK:∀cap w',k≤cap→cap≤maxLen→rows.Own w' w.heap.size (.slice (some ⟨w.heap.size,0,none⟩) 0 cap) []→Below w.heap.size w w'→wpList Tryz.prog ops Q rest (act.put o.dst (.slice (some ⟨w.heap.size,0,none⟩) k cap)) w') :
    wpList Tryz.prog ops Q (o :: rest) act w:=by
 obtain⟨i0,hi,hz0,hz1,hz2⟩:=info_parts info
 refine wpList_plain hgd fun K hK' => ?_
 have hrun:=Go.Lib.run_append_grow_zeros (P:=Tryz.prog) w 22 3 o.type 2 i0 (.int .i64 0) .i64 .i64 Tryz.underlying22 Tryz.underlying3 hi hz0 none 0 0 [] (by simp[Builtin.firstCells]) k h0 (by rw[hz1];decide) (by omega) (by omega) (by rw[hz2];omega) (by rw[hz2];unfold Builtin.nextslicecap;simp;split<;>omega)
 unfold Oper.wp
 simp[execOp,ho,resolve,invoke,builtin,hs,hx,hrun,Result.andThen]
 have hge:=grownCap_ge w (0+k) 0 2
 have hle:=grownCap_le_maxLen w (0+k) 0 2 (by unfold maxLen;omega)
 rw[Nat.zero_add]at hge hle
 refine hK' _ _ (hK _ _ hge hle ?_ ((Below.refl _ w).drew.alloc (Nat.le_refl _) _))
 refine⟨rfl,.inr ⟨w.heap.size,_,_,rfl,Nat.le_refl _,heap_alloc_new w.drew _,Nat.zero_le _,hle,?_,by simp[cellsOf]⟩⟩
 simp[size_zeroCells,Value.cells]
 omega
set_option maxHeartbeats 4000000 in
theorem growI_any (k:Nat) (hk:k≤100000) (w:World) :
    Calls Tryz.prog 99 #[.slice none 0 0,.int .i64 (k:Int)] w fun e w'=>∃v',e = .returned v'∧rows.Own w' w.heap.size v' []∧Below w.heap.size w w':=by
 by_cases h0:k=0
 ·subst h0
  go_enter Tryz.func99,Tryz.ntmps99
  go_wp2
  go_ret
  exact⟨_,rfl,World.ownsRow_nil _ _ _ _,Below.refl _ _⟩
 ·have hp:0<k:=by omega
  have hp1:(k:Int) > 0:=by omega
  have hp2:¬(k:Int)<0:=by omega
  go_enter Tryz.func99,Tryz.ntmps99
  go_wp2_with (refine wpList_growI rfl (.tmp 20) (.tmp 21) rfl (by first|rfl|(simp[go_sem];done)) k hp hk (by first|rfl|(simp[go_sem];done)) ?_;intro cap w2 hc1 hc2 hO hB;have HO:Hid _:=hO;have HB:Hid _:=hB;have hc3:cap≤9223372036854775807:=hc2;clear hO hB)
  go_ret
  exact⟨_,rfl,HO.out,HB.out⟩
theorem wpList_app_ints {w:World} {ops:Array Oper} {rest:List Oper} {o:Oper} {act:Act} {Q:Exit→Act→World→Prop} (hgd:o.guard=none) (s x:Operand) (ho:o.op = .call { callee:=.builtin .append,args:=#[s,x],argTypes:=#[22,22] })
    (base:Nat) (v:Value) (ds:List Int) (hs:act.eval s=v) (hown:rows.Own w base v ds) (u:Value) (es:List Int) (hx:act.eval x=u) (hU:IntsAt w u es) (hb:ds.length+es.length≤100000) (hbase:base≤w.heap.size)
    (hK:∀v' w',rows.Own w' base v' (ds++es)→Ch (blk v) w w'→wpList Tryz.prog ops Q rest (act.put o.dst v') w') :
    wpList Tryz.prog ops Q (o :: rest) act w:=by
 obtain⟨i0,hi,hz0,hz1,hz2⟩:=info_parts info
 obtain⟨ad,cap,e,hlc,hcm,hnil,_⟩:=id hU
 subst e
 cases ad with
 |some ad=>
  refine wpList_append_own_at _ hgd s x _ ho base 2 i0 (.int .i64 0) 1 8 Tryz.underlying22 hi hz0 hz1 hz2 rfl (by decide) v ds.length (cellsOf ds) hs hown ad es.length cap (cellsOf es) hx (by simp) (ints_news hU) (cellsI_one es) (by unfold maxLen;omega) (by omega) hbase ?_
  intro v' w' h1 h2 _ _
  refine hK v' w' ?_ (ch_grown h2)
  show World.ownsRow _ _ _ _ _ _ _
  rw[cellsI_append,List.length_append]
  exact h1
 |none=>
  have hc:=hnil rfl
  have hy:es=[]:=List.eq_nil_of_length_eq_zero (by omega)
  subst hy hc
  refine wpList_plain hgd fun K hK' => ?_
  have hrun:=run_append_owned_none (P:=Tryz.prog) (w:=w) base 22 o.type 2 i0 1 Tryz.underlying22 hi v ds.length (cellsOf ds) hown
  have hx':act.eval x = .slice none 0 0:=hx
  unfold Oper.wp
  simp[execOp,ho,resolve,invoke,builtin,hs,hx',hrun,Result.andThen]
  exact hK' _ _ (hK v w (by rw[List.append_nil];exact hown) (Ch.refl _ _))
def ListsAt (w:World) (v:Value) (ls:List (List Int)):Prop:=∃b c,v = .slice (some ⟨b,0,none⟩) ls.length c∧b<w.heap.size∧∀i,i<ls.length→∃u,w.cell? ⟨b,i,none⟩=some u∧IntsAt w u (ls.getD i [])
theorem flat_next {ls:List (List Int)} {k:Nat} (hk:k<ls.length):(ls.take (k+1)).flatten=(ls.take k).flatten++ls.getD k []:=by
 rw[List.take_add_one,List.flatten_append,List.getElem?_eq_getElem hk,List.getD_eq_getElem?_getD,List.getElem?_eq_getElem hk]
 simp
theorem flat_le (ls:List (List Int)) (k:Nat):(ls.take k).flatten.length≤ls.flatten.length:=by
 have:ls.flatten=(ls.take k).flatten++(ls.drop k).flatten:=by rw[←List.flatten_append,List.take_append_drop]
 rw[this,List.length_append]
 omega
set_option maxHeartbeats 8000000 in
theorem concatI_any {w:World} {v:Value} {ls:List (List Int)} (h:ListsAt w v ls) (hn:ls.length≤100000) (hs:ls.flatten.length≤100000) :
    Calls Tryz.prog 65 #[v] w fun e w'=>∃v',e = .returned v'∧rows.Own w' w.heap.size v' ls.flatten∧Below w.heap.size w w':=by
 obtain⟨b,c,rfl,hbl,hcell⟩:=h
 have HC:Hid _:=hcell
 have HFN:Hid (∀k,k<ls.length→(ls.take (k+1)).flatten=(ls.take k).flatten++ls.getD k []):=fun k hk=>flat_next hk
 have HFL:Hid (∀k,(ls.take k).flatten.length≤100000):=fun k=>Nat.le_trans (flat_le ls k) hs
 have HF0:Hid ((ls.take 0).flatten=[]):=rfl
 have HFE:Hid ((ls.take ls.length).flatten=ls.flatten):=by show _=_;rw[List.take_length]
 clear hcell hs
 go_enter Tryz.func65,Tryz.ntmps65
 go_wp2_with fail
 go_loopw [3,5,11] (fun z _ q wr=>∃k:Nat,k≤ls.length∧q = .int .i64 (k:Int)∧z = .int .i64 (((ls.take k).flatten.length:Nat):Int)∧wr=w) (fun _ _ q _=>ls.length-(intOf q).toNat)
 case atStart=>exact⟨0,Nat.zero_le _,rfl,rfl,rfl⟩
 case round=>
  obtain⟨k,hk,rfl,rfl,hw⟩:=hrel
  have hw':=hw.symm
  clear hw
  subst hw'
  by_cases hlt:k<ls.length
  ·have hlt':(k:Int)<(ls.length:Int):=by omega
   obtain⟨u,hu,hi⟩:=HC.out k hlt
   obtain⟨ua,uc,rfl,_,_,_,_⟩:=hi
   have h1:=HFL.out k
   have h2:=HFL.out (k+1)
   rw[HFN.out k hlt,List.length_append]at h2
   have HE:Hid (((ls.take k).flatten.length:Int)+((ls.getD k []).length:Int)=(((ls.take (k+1)).flatten.length:Nat):Int)):=by
    show _=_
    rw[HFN.out k hlt,List.length_append]
    omega
   have p1:¬((ls.take k).flatten.length:Int)+((ls.getD k []).length:Int)<0:=by omega
   have p2:IntKind.i64.wrap (((ls.take k).flatten.length:Int)+((ls.getD k []).length:Int))=((ls.take k).flatten.length:Int)+((ls.getD k []).length:Int):=by rw[IntKind.wrap_i64];omega
   generalize (ls.take k).flatten.length=n1 at *
   generalize (ls.getD k []).length=n2 at *
   go_wp2
   exact⟨⟨k+1,by omega,by go_num,by rw[HE.out],by trivial⟩,by simp[intOf];omega⟩
  ·have hlt':¬(k:Int)<(ls.length:Int):=by omega
   have e:k=ls.length:=by omega
   subst e
   have h1:=HFL.out ls.length
   obtain⟨T,hT⟩:∃T:Nat,(ls.take ls.length).flatten.length=T:=⟨_,rfl⟩
   rw[hT]at h1
   have GR:=growI_any T h1 w
   rw[hT]
   clear hT
   go_wp2_with fail
   refine GR.mono ?_
   clear GR
   rintro e w2 ⟨v2,rfl,O2,b2⟩
   have HO2:Hid _:=O2
   have HB2:Hid _:=b2
   obtain⟨na,nn,nc,rfl⟩:=ints_slice (own_ints O2)
   clear O2 b2
   go_wp2_with fail
   go_loopw [6,8,27] (fun o _ q wz=>∃v,v=o∧∃k:Nat,k≤ls.length∧q = .int .i64 (k:Int)∧rows.Own wz w.heap.size v (ls.take k).flatten∧Below w.heap.size w wz) (fun _ _ q _=>ls.length-(intOf q).toNat)
   case atStart=>exact⟨_,rfl,0,Nat.zero_le _,rfl,by rw[HF0.out];exact HO2.out,HB2.out⟩
   case round=>
    obtain⟨v,rfl,k,hk,rfl,hO,hB⟩:=hrel
    clear HO2 HB2
    have HB:Hid _:=hB
    have sB:=hB.size
    have HOV:Hid _:=hO
    obtain⟨va,vn,vc,rfl⟩:=ints_slice (own_ints hO)
    by_cases hlt:k<ls.length
    ·have hlt':(k:Int)<(ls.length:Int):=by omega
     obtain⟨u,hu,hi⟩:=HC.out k hlt
     have HU:Hid _:=intsAt_below hi hB
     obtain⟨ua,uc,rfl,_,_,_,_⟩:=hi
     have z0:=(hB.cell (p:=⟨b,k,none⟩) hbl).trans hu
     have h2:=HFL.out (k+1)
     rw[HFN.out k hlt,List.length_append]at h2
     have HE:Hid _:=HFN.out k hlt
     have HBL:Hid _:=blk_lt hO
     clear hO hB hu
     generalize ls.getD k []=es at *
     generalize (ls.take k).flatten=fl at *
     go_wp2_with (refine wpList_app_ints rfl (.tmp 31) (.tmp 32) rfl w.heap.size (.slice va vn vc) fl (by first|rfl|(simp[go_sem];done)) HOV.out (.slice ua es.length uc) es (by first|rfl|(simp[go_sem];done)) HU.out (by omega) sB ?_;intro v' w5 h5 c5;have HO5:Hid _:=h5;have HB5:Hid (Below w.heap.size w w5):=HB.out.trans (below_ch c5 sB (fun z hz=>(HBL.out z hz).1));obtain⟨va',vn',vc',rfl⟩:=ints_slice (own_ints h5);clear h5 c5)
     exact⟨⟨_,rfl,k+1,by omega,by go_num,by rw[HE.out];exact HO5.out,HB5.out⟩,by simp[intOf];omega⟩
    ·have hlt':¬(k:Int)<(ls.length:Int):=by omega
     have e:k=ls.length:=by omega
     subst e
     rw[HFE.out]at HOV
     clear hO hB
     go_wp2
     go_ret
     exact⟨_,rfl,HOV.out,HB.out⟩
end Go.Proofs.YtemlagfaaibenaaGreat.hp
