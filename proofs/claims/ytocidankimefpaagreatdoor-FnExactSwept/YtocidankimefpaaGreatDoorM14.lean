/-
  A number put into a list of numbers and taken out of one: slices.Insert, slices.Delete. A number put into a list of numbers of the call's own, whatever room there is: slices.Insert. What a call may change, by a predicate of the blocks.
-/
import Derived.Test.YtocidankimefpaaGreatDoorM1
import Derived.Test.YtocidankimefpaaGreatDoorM7
import Derived.Laws.AppendOwnNone
import Derived.Maps.AppendAt
import Derived.Lib.AppendZerosOnto
import Derived.Deep.RegionLaw
import Derived.Lib.Overlaps
namespace Go.Proofs.YtocidankimefpaaGreatDoor.hp
open Go.RowKit rows
set_option linter.unusedVariables false
set_option linter.unusedSimpArgs false
theorem cellsI_length (xs:List Int):(cellsOf xs).length=xs.length:=by simp
theorem cellsI_append (xs ys:List Int):cellsOf (xs++ys)=cellsOf xs++cellsOf ys:=by simp[cellsOf]
theorem cellsI_one (xs:List Int):∀v ∈ cellsOf xs,v.oneCell'=true:=ints_oneCell .i64 xs
theorem zeroI (w:World):(zeroValue 2).run Tryz.prog w = .ok (.int .i64 0) w:=by kernel_rfl
theorem wpList_appIE {w:World} {base:Nat} {ops:Array Oper} {rest:List Oper} {o:Oper} {act:Act} {Q:Exit→Act→World→Prop} {a:Option Addr} {cap g n c:Nat} {es fs:List Int}
    (hbs:base≤w.heap.size) (hown:w.ownsRow base 2 1 (.slice (some ⟨g,0,none⟩) n c) n (cellsOf es)) (h:IntsAt w (.slice a fs.length cap) fs) (hl:n+fs.length≤1048576)
    (hgd:o.guard=none) (s x:Operand) (ho:o.op = .call { callee:=.builtin .append,args:=#[s,x],argTypes:=#[22,22] })
    (hs:act.eval s = .slice (some ⟨g,0,none⟩) n c) (hx:act.eval x = .slice a fs.length cap)
    (hK:∀g' c' w1,w1.ownsRow base 2 1 (.slice (some ⟨g',0,none⟩) (n+fs.length) c') (n+fs.length) (cellsOf (es++fs))→Ch [g] w w1→(g'=g∨w.heap.size≤g')→wpList Tryz.prog ops Q rest (act.put o.dst (.slice (some ⟨g',0,none⟩) (n+fs.length) c')) w1) :
    wpList Tryz.prog ops Q (o :: rest) act w:=by
 obtain⟨i0,hi,hz0,hz1,hz2⟩:=info_parts info
 have h':=h
 obtain⟨a',cap',e,hlc,hcm,hnil,_⟩:=h
 injection e with e1 e2 e3
 subst e1 e3
 cases a with
 |none=>
  have hcap:=hnil rfl
  have e:fs=[]:=List.eq_nil_of_length_eq_zero (by omega)
  subst e hcap
  refine wpList_append_own_none hgd s x 22 ho _ 2 i0 1 Tryz.underlying22 hi _ n (cellsOf es) hs hown hx ?_
  exact hK g c w (by simpa using hown) (Ch.refl _ _) (.inl rfl)
 |some ad=>
  refine wpList_append_own_at _ hgd s x 22 ho _ 2 i0 (.int .i64 0) 1 8 Tryz.underlying22 hi hz0 hz1 hz2 rfl (by decide) _ n (cellsOf es) hs hown ad fs.length cap (cellsOf fs) hx (by simp) (ints_news h') (cellsI_one fs) (by unfold maxLen;omega) (by omega) hbs ?_
  intro v' w1 hown' hgrow hnn hat
  have hown2:=hown'
  obtain⟨_,⟨h1,_⟩|⟨g',c',cur,h1,hg,hh,hle,hm,hsz,ht⟩⟩:=hown'
  ·exact absurd (hnn.1 h1).1 (by simp)
  ·subst h1
   refine hK g' c' w1 (by rw[cellsI_append];exact hown2) (by simpa [blk,Value.ownBlock] using ch_grown hgrow) ?_
   rcases hat with hat|hat
   ·exact .inl (by simpa [Value.ownBlock] using hat)
   ·exact .inr (Nat.le_of_eq (by simpa [Value.ownBlock] using hat.symm))
theorem wpList_appIN {w:World} {base:Nat} {ops:Array Oper} {rest:List Oper} {o:Oper} {act:Act} {Q:Exit→Act→World→Prop} {a:Option Addr} {cap g n c m:Nat} {es fs:List Int} (hm:fs.length=m)
    (hbs:base≤w.heap.size) (hown:w.ownsRow base 2 1 (.slice (some ⟨g,0,none⟩) n c) n (cellsOf es)) (h:IntsAt w (.slice a m cap) fs) (hl:n+m≤1048576)
    (hgd:o.guard=none) (s x:Operand) (ho:o.op = .call { callee:=.builtin .append,args:=#[s,x],argTypes:=#[22,22] })
    (hs:act.eval s = .slice (some ⟨g,0,none⟩) n c) (hx:act.eval x = .slice a m cap)
    (hK:∀g' c' w1,w1.ownsRow base 2 1 (.slice (some ⟨g',0,none⟩) (n+m) c') (n+m) (cellsOf (es++fs))→Ch [g] w w1→(g'=g∨w.heap.size≤g')→wpList Tryz.prog ops Q rest (act.put o.dst (.slice (some ⟨g',0,none⟩) (n+m) c')) w1) :
    wpList Tryz.prog ops Q (o :: rest) act w:=by
 subst hm
 exact wpList_appIE hbs hown h hl hgd s x ho hs hx hK
theorem intsG_from {w:World} {g len cap k:Nat} {es:List Int} (h:IntsAt w (.slice (some ⟨g,0,none⟩) len cap) es) (hl:es.length=len) (hk:k≤len) (ad:Option Addr) (had:ad=some ⟨g,0,none⟩∧k=len∨ad=some ⟨g,k,none⟩):IntsAt w (.slice ad (len-k) (cap-k)) (es.drop k):=by
 subst hl
 obtain⟨a',cap',e,hlc,hcm,_,hc⟩:=h
 injection e with e1 e2 e3
 subst e3
 refine⟨ad,cap-k,by rw[List.length_drop],by rw[List.length_drop];omega,by omega,(fun hn=>by rcases had with ⟨h1,_⟩|h1<;>rw[h1]at hn<;>cases hn),fun hp => ?_⟩
 rw[List.length_drop]at hp
 obtain⟨b,off,hbo,hbl,hcc⟩:=hc (by omega)
 rw[←e1]at hbo
 injection hbo with hbo
 injection hbo with hb1 hb2
 subst hb1 hb2
 rcases had with ⟨_,h1⟩|h1
 ·omega
 ·refine⟨g,k,h1,hbl,fun i hi => ?_⟩
  rw[List.length_drop]at hi
  have:=hcc (k+i) (by omega)
  rw[show 0+(k+i)=k+i by omega]at this
  simpa [List.getD_eq_getElem?_getD] using this
theorem intsG_upto {w:World} {g len cap k:Nat} {es:List Int} (h:IntsAt w (.slice (some ⟨g,0,none⟩) len cap) es) (hl:es.length=len) (hk:k≤len):IntsAt w (.slice (some ⟨g,0,none⟩) k cap) (es.take k):=by
 subst hl
 obtain⟨a',cap',e,hlc,hcm,_,hc⟩:=h
 injection e with e1 e2 e3
 subst e3
 have el:(es.take k).length=k:=by rw[List.length_take];omega
 refine⟨_,cap,by rw[el],by omega,hcm,(fun hn=>by cases hn),fun hp => ?_⟩
 obtain⟨b,off,hbo,hbl,hcc⟩:=hc (by omega)
 rw[←e1]at hbo
 refine⟨b,off,hbo,hbl,fun i hi => ?_⟩
 have:=hcc i (by omega)
 have hik:i<k:=by omega
 have e9:(es.take k).getD i 0=es.getD i 0:=by rw[List.getD_eq_getElem?_getD,List.getD_eq_getElem?_getD,List.getElem?_take,if_pos hik]
 rw[e9]
 exact this
theorem wpList_zerosI {w:World} {ops:Array Oper} {rest:List Oper} {o:Oper} {act:Act} {Q:Exit→Act→World→Prop} {g n i k m:Nat} {es:List Int}
    (hgd:o.guard=none) (s x:Operand) (ho:o.op = .call { callee:=.builtin .append,args:=#[s,x],argTypes:=#[22,3] }) (k':Int)
    (hs:act.eval s = .slice (some ⟨g,0,none⟩) i n) (hx:act.eval x = .int .i64 k') (hk:k'=(k:Int)) (F:Full w g es) (hn:es.length=n) (hi:i≤n) (h40:n≤1048576) (h0:0<k) (hg:n<i+k) (hk2:k≤1048576) (hm:i+k=m)
    (hK:∀(w1:World) (L:List Value) (cap:Nat),Hid (w1.heap[w.heap.size]? = some (.cells L.toArray 2 (0,0)))→Hid (L.take (i)=cellsOf (es.take i))→L.length=cap→m≤cap→cap≤9223372036854775807→Hid (Below w.heap.size w w1)→wpList Tryz.prog ops Q rest (act.put o.dst (.slice (some ⟨w.heap.size,0,none⟩) m cap)) w1) :
    wpList Tryz.prog ops Q (o :: rest) act w:=by
 obtain⟨i0,hi0,hz0,hz1,hz2⟩:=info_parts info
 subst hk hn hm
 have O:=intsG_upto (k:=i) (own_ints (full_own (base:=0) F (Nat.zero_le _) (by unfold maxLen;omega))) rfl hi
 have el:(es.take i).length=i:=by rw[List.length_take];omega
 have hold:(Builtin.firstCells i0.size i (.slice (some ⟨g,0,none⟩) i es.length)).run Tryz.prog w.drew = .ok (cellsOf (es.take i)).toArray w.drew:=by
  rw[hz1]
  exact run_firstCells_some w.drew 1 i ⟨g,0,none⟩ i es.length (cellsOf (es.take i)) (by rw[cellsI_length,el,Nat.mul_one]) (ints_news (n:=i) (cap:=es.length) O)
 have hr:=Lib.run_append_grow_zeros w 22 3 o.type 2 i0 (.int .i64 0) .i64 .i64 Tryz.underlying22 Tryz.underlying3 hi0 hz0 (some ⟨g,0,none⟩) i es.length (cellsOf (es.take i)) hold k h0 (by omega) hg (by omega) (by rw[hz2];omega) (by rw[hz2];exact growslice_fits hg (by omega))
 have hge:=grownCap_ge w (i+k) es.length 2
 have hcm:grownCap w (i+k) es.length 2≤maxLen:=grownCap_le_maxLen w (i+k) es.length 2 (by unfold maxLen;omega)
 refine wpList_plain hgd fun K hK' => ?_
 unfold Oper.wp
 simp[execOp,ho,resolve,invoke,builtin,hs,hx,hr,Result.andThen]
 refine hK' _ _ ?_
 generalize grownCap w (i+k) es.length 2=cap at *
 refine hK _ ((cellsOf (es.take i)).toArray++(Builtin.zeroCells (Value.int .i64 0).cells k++Builtin.zeroCells (Value.int .i64 0).cells (cap-(i+k)))).toList cap (by show _=_;rw[Array.toArray_toList];simp only[cellsOf,List.map_take];exact heap_alloc_new w.drew _) ?_ ?_ hge hcm ?_
 ·show List.take _ _=_
  simp only[Array.toList_append]
  exact List.take_left' (by simp;omega)
 ·simp[Builtin.zeroCells,Value.cells,cellsI_length,el]
  omega
 ·exact⟨rfl,rfl,rfl,by simp,fun j hj=>Below.heap_alloc w.drew _ j hj⟩
theorem splice_atI {L:List Value} {off:Nat} {X Y:List Value} (h:L.take off=X) (hf:off+Y.length≤L.length):(splice L off Y).take (off+Y.length)=X++Y:=by
 unfold splice
 rw[h,←List.append_assoc]
 exact List.take_left' (by rw[←h];simp;omega)
set_option maxRecDepth 100000 in
set_option maxHeartbeats 4000000 in
theorem insertI_any {w:World} {base g vb i:Nat} {es:List Int} {x:Int} (hbs:base≤w.heap.size) (F:Full w g es) (hg:base≤g) (hv:IntsAt w (.slice (some ⟨vb,0,none⟩) 1 1) [x]) (hi:i≤es.length) (h40:es.length≤1000) :
    Calls Tryz.prog 183 #[.slice (some ⟨g,0,none⟩) es.length es.length,.int .i64 (i:Nat),.slice (some ⟨vb,0,none⟩) 1 1] w fun r w'=>∃v',r = .returned v'∧rows.Own w' base v' (es.take i++[x]++es.drop i)∧Ch [g] w w'∧∀k ∈ blk v',k=g∨w.heap.size≤k:=by
 have O:=full_own F hg (show es.length≤maxLen by unfold maxLen;omega)
 by_cases hin:i=es.length
 ·subst hin
  have eL:es.take es.length++[x]++es.drop es.length=es++[x]:=by simp
  rw[eL]
  have hin':((es.length:Int)==(es.length:Int))=true:=by simp
  have HO:Hid _:=O
  have HV:Hid _:=hv
  clear O hv F eL
  go_enter Tryz.func183,Tryz.ntmps183
  go_wp2_with (at_builtin;refine wpList_appIN (base:=base) (m:=1) (fs:=[x]) rfl hbs HO.out HV.out (by omega) rfl _ _ rfl rfl rfl ?_;intro g' c' w3 hO3 hB3 hG3)
  go_ret
  refine⟨_,rfl,?_,hB3,fun k hk=>by obtain rfl:k=g':=(by simpa [blk,Value.ownBlock] using hk);exact hG3⟩
  have e3:(es++[x]).length=es.length+1:=by simp
  show World.ownsRow _ _ _ _ _ _ _
  rw[e3]
  exact hO3
 ·have hlt:i<es.length:=by omega
  have hin':((i:Int)==(es.length:Int))=false:=by simp;omega
  have hic:¬es.length=i:=by omega
  have hroom:(es.length:Int)<(es.length:Int)+1:=by omega
  have HV:Hid _:=hv
  have HG:Hid _:=intsG_from (k:=i) (own_ints O) rfl hi (some ⟨g,i,none⟩) (.inr rfl)
  clear hv O
  go_enter Tryz.func183,Tryz.ntmps183
  go_upto_region 10 with (at_builtin;refine wpList_zerosI (k:=es.length+1-i) (n:=es.length) (m:=es.length+1) rfl _ _ rfl _ rfl rfl (by omega) F rfl hi (by omega) (by omega) (by omega) (by omega) (by omega) ?_;intro w1 L cap hL hT hLl hcap hcm hB1)
  have hci:¬cap=i:=by omega
  have hci1:¬cap=i+1:=by omega
  have n1:(cellsOf [x]).length=Nat.min 1 (es.length+1-i)*1:=by
   have:Nat.min 1 (es.length+1-i)=1:=by simp only[Nat.min_def];split<;>omega
   rw[this];rfl
  have f1:i+(cellsOf [x]).length≤L.length:=by rw[hLl];simp[cellsOf];omega
  have p1:0<(cellsOf [x]).length→some (⟨w.heap.size,i,none⟩:Addr)=some ⟨w.heap.size,i,none⟩∧∃ad,some (⟨vb,0,none⟩:Addr)=some ad∧∀j v,(cellsOf [x])[j]? = some v→w1.cell? (ad.add j)=some v:=fun _=>⟨rfl,_,rfl,ints_news (intsAt_below HV.out hB1.out)⟩
  have HN1:Hid _:=n1
  have HF1:Hid _:=f1
  have HP1:Hid _:=p1
  have HT2:Hid _:=splice_atI hT.out f1
  have HL2:Hid (L.length=cap):=hLl
  clear n1 f1 p1 HV hT hLl
  go_upto_region 11 with (refine copyk.wpList_copy_k rfl (.tmp 43) (.tmp 44) 22 22 rfl 2 1 (by decide) Tryz.underlying22 infoSize (some ⟨w.heap.size,i,none⟩) (some ⟨vb,0,none⟩) (es.length+1-i) (cap-i) 1 1 rfl rfl w.heap.size (i) L 2 hL.out (cellsOf [x]) HN1.out HP1.out HF1.out (cellsI_one _) w.heap.size w hB1.out (Nat.le_refl _) ?_;intro w2 hL2 hO2 hB2)
  have BD:Below w.heap.size w w2.drew:=⟨hB2.os,hB2.tape,hB2.output,hB2.size,hB2.block⟩
  have hw1:IntKind.i64.wrap ((i:Int)+1)=(i:Int)+1:=by rw[IntKind.wrap_i64];omega
  have hb1:(0:Int)≤(i:Int)+1:=by omega
  have hb2:(i:Int)+1≤(es.length:Int)+1:=by omega
  have hb3:(i:Int)≤(es.length:Int):=by omega
  have htn:((i:Int)+1).toNat=i+1:=by omega
  have T2:(splice L (i) (cellsOf [x])).take ((i+1))=cellsOf (es.take i)++cellsOf [x]:=by
   have:=HT2.out
   rwa [show i+(cellsOf [x]).length=(i+1) by simp[cellsOf]]at this
  have e2:(cellsOf (es.drop i)).length=(es.length-i):=by rw[cellsI_length,List.length_drop]
  have hsp:(splice L (i) (cellsOf [x])).length=cap:=by rw[length_splice _ _ _ HF1.out,HL2.out]
  have n2:(cellsOf (es.drop i)).length=Nat.min (es.length-i) (es.length+1-(i+1))*1:=by
   have:Nat.min (es.length-i) (es.length+1-(i+1))=es.length-i:=by simp only[Nat.min_def];split<;>omega
   rw[this,e2,Nat.mul_one]
  have f2:(i+1)+(cellsOf (es.drop i)).length≤(splice L (i) (cellsOf [x])).length:=by rw[hsp,e2];omega
  have p2:0<(cellsOf (es.drop i)).length→some (⟨w.heap.size,(i+1),none⟩:Addr)=some ⟨w.heap.size,(i+1),none⟩∧∃ad,some (⟨g,i,none⟩:Addr)=some ad∧∀j v,(cellsOf (es.drop i))[j]? = some v→w2.drew.cell? (ad.add j)=some v:=fun _=>⟨rfl,_,rfl,ints_news (intsAt_below HG.out BD)⟩
  have t3:=splice_atI (Y:=cellsOf (es.drop i)) T2 f2
  have l3:=length_splice (splice L (i) (cellsOf [x])) ((i+1)) (cellsOf (es.drop i)) f2
  rw[hsp]at l3
  have HN2:Hid _:=n2
  have HF2:Hid _:=f2
  have HP2:Hid _:=p2
  have HT3:Hid _:=t3
  have HL3:Hid _:=l3
  have HB2:Hid (Below w.heap.size w w2.drew):=BD
  have HY1:Hid _:=cellsI_one (es.drop i)
  clear T2 BD n2 f2 p2 t3 l3 hsp HT2 HL2 HN1 HF1 HP1 hL hO2 hB1 HG
  generalize splice L (i) (cellsOf [x])=L2 at *
  have HE2:Hid _:=e2
  obtain⟨Y2,hY2⟩:∃Y2,cellsOf (es.drop i)=Y2:=⟨_,rfl⟩
  rw[hY2]at HN2 HF2 HP2 HT3 HL3 HY1 HE2
  have HY:Hid _:=hY2
  clear hY2 e2
  go_region_law (refine copyk.step_copy_k rfl (.tmp 50) (.tmp 53) 22 22 rfl 2 1 (by decide) Tryz.underlying22 infoSize (some ⟨w.heap.size,(i+1),none⟩) (some ⟨g,i,none⟩) (es.length+1-(i+1)) (cap-(i+1)) (es.length-i) (es.length-i) (by simp[Act.eval,Act.put]) (by simp[Act.eval,Act.put]) w.heap.size ((i+1)) L2 2 hL2.out Y2 HN2.out HP2.out HF2.out HY1.out w.heap.size w HB2.out (Nat.le_refl _) ?_;intro w3 hL3 hO3 hB3)
  have HB3:Hid _:=hB3
  clear hB3 HN2 HP2 HF2 HY1 hL2 HB2 hO3
  go_wp2
  go_ret
  refine⟨_,rfl,?_,ch_below HB3.out,fun k hk=>by obtain rfl:k=w.heap.size:=(by simpa [blk,Value.ownBlock] using hk);exact .inr (Nat.le_refl _)⟩
  have eL:(es.take i++[x]++es.drop i).length=es.length+1:=by simp;omega
  show World.ownsRow _ _ _ _ _ _ _
  rw[eL]
  refine⟨by rw[cellsI_length,eL,Nat.mul_one],.inr ⟨w.heap.size,cap,_,rfl,hbs,hL3.out,by omega,hcm,?_,?_⟩⟩
  ·simpa using HL3.out
  ·rw[cellsI_append,cellsI_append,HY.out]
   have:=HT3.out
   rwa [show (i+1)+Y2.length=(es.length+1)*1 by rw[HE2.out];omega]at this
theorem overlapsI {w:World} {vb g k ln lc:Nat} {x:Int} {cur:Array Value} (hv:w.heap[vb]? = some (.cells #[.int .i64 x] 2 (0,0))) (hg:w.heap[g]? = some (.cells cur 2 (0,0))) (hc:cur.size≠0) (hne:vb≠g) :
    (callFunc 196 #[.slice (some ⟨vb,0,none⟩) 1 1,.slice (some ⟨g,k,none⟩) ln lc]).run Tryz.prog w = .ok (.value (.bool false)) w:=by
 rw[run_callFunc_extern Tryz.func196 (by kernel_rfl) (by kernel_rfl) (by kernel_rfl) (e:=Extern.SlicesOverlaps.overlaps #[22,22] #[4]) (by kernel_rfl),
  Lib.run_overlaps_apart w 22 4 2 Tryz.underlying22 1 (fun w=>by kernel_rfl) ⟨vb,0,none⟩ ⟨g,k,none⟩ 1 1 ln lc hne 2 2 1 cur.size (by simp[World.shape?, hv]) (by simp[World.shape?, hg]) hc (by simp[World.frozen?, hv]) (by simp[World.frozen?, hv])]
 rfl
theorem wpList_appG {w:World} {base:Nat} {ops:Array Oper} {rest:List Oper} {o:Oper} {act:Act} {Q:Exit→Act→World→Prop} {v:Value} {vb n:Nat} {es:List Int} {x:Int}
    (hbs:base≤w.heap.size) (hown:w.ownsRow base 2 1 v n (cellsOf es)) (h:w.heap[vb]? = some (.cells #[.int .i64 x] 2 (0,0))) (hl:n≤1048576)
    (hgd:o.guard=none) (s y:Operand) (ho:o.op = .call { callee:=.builtin .append,args:=#[s,y],argTypes:=#[22,22] })
    (hs:act.eval s=v) (hy:act.eval y = .slice (some ⟨vb,0,none⟩) 1 1)
    (hK:∀a' c' w1,w1.ownsRow base 2 1 (.slice a' (n+1) c') (n+1) (cellsOf (es++[x]))→Ch (blk v) w w1→(∀k ∈ blk (.slice a' (n+1) c'),k ∈ blk v∨w.heap.size≤k)→wpList Tryz.prog ops Q rest (act.put o.dst (.slice a' (n+1) c')) w1) :
    wpList Tryz.prog ops Q (o :: rest) act w:=by
 obtain⟨i0,hi,hz0,hz1,hz2⟩:=info_parts info
 have F:Full w vb [x]:=h
 refine wpList_append_own_at _ hgd s y 22 ho _ 2 i0 (.int .i64 0) 1 8 Tryz.underlying22 hi hz0 hz1 hz2 rfl (by decide) v n (cellsOf es) hs hown ⟨vb,0,none⟩ 1 1 (cellsOf [x]) hy (by simp) (ints_news (own_ints (full_own (base:=0) F (Nat.zero_le _) (show 1≤maxLen by decide)))) (cellsI_one [x]) (by unfold maxLen;omega) (by omega) hbs ?_
 intro v' w1 hown' hgrow _ hat
 obtain⟨a',c',rfl⟩:∃a c,v' = .slice a (n+1) c:=by
  obtain⟨_,⟨h1,h2⟩|⟨g',c',cur,h1,_⟩⟩:=hown'
  ·omega
  ·exact⟨_,_,h1⟩
 refine hK a' c' w1 (by rw[cellsI_append];exact hown') (ch_grown hgrow) (fun k hk => ?_)
 unfold blk at hk ⊢
 rcases hat with e|e
 ·rw[e]at hk;exact .inl hk
 ·rw[e]at hk;simp at hk;exact .inr (by omega)
theorem splice_shift {L:List Value} {es:List Int} {i:Nat} {x:Int} (hL:es.length+1≤L.length) (hT:L.take es.length=cellsOf es) (hi:i<es.length) :
    (splice (splice L (i+1) (cellsOf (es.drop i))) i (cellsOf [x])).take (es.length+1)=cellsOf (es.take i++[x]++es.drop i):=by
 have e1:(cellsOf (es.drop i)).length=es.length-i:=by simp
 have e2:L.take i=cellsOf (es.take i):=by
  have:L.take i=(L.take es.length).take i:=by rw[List.take_take,Nat.min_eq_left (by omega)]
  rw[this,hT];simp[cellsOf,List.map_take]
 have e3:(L.take (i+1)).length=i+1:=by rw[List.length_take];omega
 generalize hY:cellsOf (es.drop i)=Y at *
 have e4:(splice L (i+1) Y).take i=L.take i:=by
  unfold splice
  rw[List.take_append_of_le_length (by omega),List.take_take,Nat.min_eq_left (by omega)]
 have e5:(splice L (i+1) Y).drop (i+1)=Y++L.drop (i+1+Y.length):=by
  unfold splice
  rw[List.drop_append_of_le_length (by omega),List.drop_eq_nil_of_le (by omega),List.nil_append]
 rw[show splice (splice L (i+1) Y) i (cellsOf [x])=(splice L (i+1) Y).take i++(cellsOf [x]++(splice L (i+1) Y).drop (i+(cellsOf [x]).length)) from rfl,show i+(cellsOf [x]).length=i+1 by simp[cellsOf],e4,e5,e2,←List.append_assoc,←List.append_assoc,cellsI_append,cellsI_append,hY]
 exact List.take_left' (by simp[e1];omega)
set_option maxRecDepth 100000 in
set_option maxHeartbeats 4000000 in
theorem insertG_any {w:World} {base vb i:Nat} {v:Value} {es:List Int} {x:Int} (hbs:base≤w.heap.size) (O:rows.Own w base v es) (hv:w.heap[vb]? = some (.cells #[.int .i64 x] 2 (0,0))) (hvb:vb ∉ blk v) (hi:i≤es.length) (h40:es.length≤1000) :
    Calls Tryz.prog 183 #[v,.int .i64 (i:Nat),.slice (some ⟨vb,0,none⟩) 1 1] w fun r w'=>∃v',r = .returned v'∧rows.Own w' base v' (es.take i++[x]++es.drop i)∧Ch (blk v) w w'∧∀k ∈ blk v',k ∈ blk v∨w.heap.size≤k:=by
 obtain⟨a,c,rfl⟩:∃a c,v = .slice a es.length c:=by
  obtain⟨a,c,e,_⟩:=own_ints O
  exact⟨a,c,e⟩
 by_cases hin:i=es.length
 ·subst hin
  have eL:es.take es.length++[x]++es.drop es.length=es++[x]:=by simp
  rw[eL]
  have hin':((es.length:Int)==(es.length:Int))=true:=by simp
  have HO:Hid _:=O
  have HV:Hid _:=hv
  clear O hv eL hvb
  by_cases hcc:c=es.length
  ·subst hcc
   cases a with
   |none=>
    go_enter Tryz.func183,Tryz.ntmps183
    go_wp2_with (at_builtin;refine wpList_appG (base:=base) hbs HO.out HV.out (by omega) rfl _ _ rfl rfl rfl ?_;intro a' c' w3 hO3 hB3 hG3)
    go_ret
    refine⟨_,rfl,?_,hB3,hG3⟩
    have e3:(es++[x]).length=es.length+1:=by simp
    show World.ownsRow _ _ _ _ _ _ _
    rw[e3]
    exact hO3
   |some ad=>
    obtain⟨ab,ao,asp⟩:=ad
    go_enter Tryz.func183,Tryz.ntmps183
    go_wp2_with (at_builtin;refine wpList_appG (base:=base) hbs HO.out HV.out (by omega) rfl _ _ rfl rfl rfl ?_;intro a' c' w3 hO3 hB3 hG3)
    go_ret
    refine⟨_,rfl,?_,hB3,hG3⟩
    have e3:(es++[x]).length=es.length+1:=by simp
    show World.ownsRow _ _ _ _ _ _ _
    rw[e3]
    exact hO3
  ·cases a with
   |none=>
    go_enter Tryz.func183,Tryz.ntmps183
    go_wp2_with (at_builtin;refine wpList_appG (base:=base) hbs HO.out HV.out (by omega) rfl _ _ rfl rfl rfl ?_;intro a' c' w3 hO3 hB3 hG3)
    go_ret
    refine⟨_,rfl,?_,hB3,hG3⟩
    have e3:(es++[x]).length=es.length+1:=by simp
    show World.ownsRow _ _ _ _ _ _ _
    rw[e3]
    exact hO3
   |some ad=>
    obtain⟨ab,ao,asp⟩:=ad
    go_enter Tryz.func183,Tryz.ntmps183
    go_wp2_with (at_builtin;refine wpList_appG (base:=base) hbs HO.out HV.out (by omega) rfl _ _ rfl rfl rfl ?_;intro a' c' w3 hO3 hB3 hG3)
    go_ret
    refine⟨_,rfl,?_,hB3,hG3⟩
    have e3:(es++[x]).length=es.length+1:=by simp
    show World.ownsRow _ _ _ _ _ _ _
    rw[e3]
    exact hO3
 ·obtain⟨h0,⟨_,h2⟩|⟨g,cap,cur,h1,hg,hh,hle,hm,hsz,ht⟩⟩:=id O
  ·omega
  ·injection h1 with e1 e2 e3
   subst e1 e3
   have hbl:blk (Value.slice (some ⟨g,0,none⟩) es.length c)=[g]:=by simp[blk,Value.ownBlock]
   rw[hbl]at hvb ⊢
   have hne:vb≠g:=fun e=>hvb (by simp[e])
   have hlt:i<es.length:=by omega
   by_cases hcap:c=es.length
   ·subst hcap
    have F:Full w g es:=own_full O rfl
    have V:Full w vb [x]:=hv
    refine (insertI_any (base:=base) hbs F hg (own_ints (full_own (base:=0) V (Nat.zero_le _) (show 1≤maxLen by decide))) hi h40).mono ?_
    rintro e w' ⟨v',rfl,O',C',K'⟩
    exact⟨v',rfl,O',C',fun k hk=>(K' k hk).elim (fun e => .inl (by simp[e])) .inr⟩
   ·have hin':((i:Int)==(es.length:Int))=false:=by simp;omega
    have hroom:¬(c:Int)<(es.length:Int)+1:=by omega
    have hc63:c≤9223372036854775807:=hm
    have hov:∀lb cb,(callFunc 196 #[.slice (some ⟨vb,0,none⟩) 1 1,.slice (some ⟨g,i+1,none⟩) lb cb]).run Tryz.prog w = .ok (.value (.bool false)) w:=fun lb cb=>overlapsI hv hh (by omega) hne
    have hw1:IntKind.i64.wrap ((i:Int)+1)=(i:Int)+1:=by rw[IntKind.wrap_i64];omega
    have hw2:IntKind.i64.wrap ((es.length:Int)+1)=(es.length:Int)+1:=by rw[IntKind.wrap_i64];omega
    have hb1:(0:Int)≤(i:Int)+1:=by omega
    have hb2:(i:Int)+1≤(es.length:Int)+1:=by omega
    have hb3:(i:Int)≤(es.length:Int)+1:=by omega
    have hb4:(i:Int)≤(es.length:Int):=by omega
    have hb5:(es.length:Int)+1≤(c:Int):=by omega
    have hb6:(0:Int)≤(es.length:Int)+1:=by omega
    have htn:((i:Int)+1).toNat=i+1:=by omega
    have htn2:((es.length:Int)+1).toNat=es.length+1:=by omega
    have hci:¬c=i:=by omega
    have hci1:¬c=i+1:=by omega
    have hcl:cur.toList.length=c:=by simpa using hsz
    have eY:(cellsOf (es.drop i)).length=es.length-i:=by simp
    have hg2:w.heap[g]? = some (.cells cur.toList.toArray 2 (0,0)):=by simpa using hh
    have HG:Hid (w.drew.heap[g]? = some (.cells cur.toList.toArray 2 (0,0))):=hg2
    have HN:Hid ((cellsOf (es.drop i)).length=Nat.min (es.length+1-i) (es.length+1-(i+1))*1):=by
     show _=_
     have:Nat.min (es.length+1-i) (es.length+1-(i+1))=es.length-i:=by simp only[Nat.min_def];split<;>omega
     rw[this,eY,Nat.mul_one]
    have HP:Hid (∀j v,(cellsOf (es.drop i))[j]? = some v→w.drew.cell? ((⟨g,i,none⟩:Addr).add j)=some v):=ints_news (intsG_from (k:=i) (own_ints O) rfl hi (some ⟨g,i,none⟩) (.inr rfl))
    have HF:Hid (i+1+(cellsOf (es.drop i)).length≤cur.toList.length):=by show _≤_;rw[eY,hcl];omega
    have HY:Hid _:=cellsI_one (es.drop i)
    have HNX:Hid (∀W:World,(∀k,k≠g→W.heap[k]? = w.heap[k]?)→W.heap[g]? = some (.cells (splice cur.toList (i+1) (cellsOf (es.drop i))).toArray 2 (0,0))→∀j v,(cellsOf [x])[j]? = some v→W.cell? ((⟨vb,0,none⟩:Addr).add j)=some v):=fun W hW _=>by
     have V:Full W vb [x]:=(hW vb hne).trans hv
     exact ints_news (own_ints (full_own (base:=0) V (Nat.zero_le _) (show 1≤maxLen by decide)))
    have HF2:Hid (i+(cellsOf [x]).length≤(splice cur.toList (i+1) (cellsOf (es.drop i))).length):=by
     show _≤_
     rw[length_splice _ _ _ HF.out,hcl];simp[cellsOf];omega
    have HN2:Hid ((cellsOf [x]).length=Nat.min 1 (es.length+1-i)*1):=by
     show _=_
     have:Nat.min 1 (es.length+1-i)=1:=by simp only[Nat.min_def];split<;>omega
     rw[this];rfl
    have HEND:Hid (∀W:World,W.heap[g]? = some (.cells (splice (splice cur.toList (i+1) (cellsOf (es.drop i))) i (cellsOf [x])).toArray 2 (0,0))→rows.Own W base (.slice (some ⟨g,0,none⟩) (es.length+1) c) (es.take i++[x]++es.drop i)):=fun W hW=>by
     have eL:(es.take i++[x]++es.drop i).length=es.length+1:=by simp;omega
     show World.ownsRow _ _ _ _ _ _ _
     rw[eL]
     refine⟨by rw[cellsI_length,eL,Nat.mul_one],.inr ⟨g,c,_,rfl,hg,hW,by omega,hm,?_,?_⟩⟩
     ·rw[List.size_toArray,length_splice _ _ _ HF2.out,length_splice _ _ _ HF.out,hcl];omega
     ·rw[Nat.mul_one]
      exact splice_shift (by rw[hcl];omega) (by rw[←ht,Nat.mul_one]) hlt
    clear O hv hh h0 hsz ht eY hg2 hm hg
    generalize hY2:cellsOf (es.drop i)=Y at *
    clear hY2
    go_enter Tryz.func183,Tryz.ntmps183
    go_wp2_with (simp only[hov])
    go_region_law (refine copyk.step_copy_k rfl (.tmp 73) (.tmp 76) 22 22 rfl 2 1 (by decide) Tryz.underlying22 infoSize (some ⟨g,i+1,none⟩) (some ⟨g,i,none⟩) (es.length+1-(i+1)) (c-(i+1)) (es.length+1-i) (c-i) (by simp[Act.eval,Act.put]) (by simp[Act.eval,Act.put]) g (i+1) cur.toList 2 HG.out Y HN.out (fun _=>⟨rfl,_,rfl,HP.out⟩) HF.out HY.out g w.drew (Below.refl _ _) (Nat.le_refl _) ?_;intro w3 hL3 hO3 hB3)
    have HP2:Hid _:=HNX.out w3 (fun k hk=>hO3.out k hk) hL3.out
    have HB3:Hid _:=hB3
    clear HNX HN HP HF HY HG hB3 hov
    go_wp2_with (refine copyk.wpList_copy_k rfl (.tmp 80) (.tmp 81) 22 22 rfl 2 1 (by decide) Tryz.underlying22 infoSize (some ⟨g,i,none⟩) (some ⟨vb,0,none⟩) (es.length+1-i) (c-i) 1 1 rfl rfl g i (splice cur.toList (i+1) Y) 2 hL3.out (cellsOf [x]) HN2.out (fun _=>⟨rfl,_,rfl,HP2.out⟩) HF2.out (cellsI_one _) g w3 (Below.refl _ _) (Nat.le_refl _) ?_;intro w4 hL4 hO4 hB4)
    go_ret
    refine⟨_,rfl,HEND.out _ hL4.out,?_,fun k hk => .inl (by simpa [blk,Value.ownBlock] using hk)⟩
    exact⟨hB4.os.trans HB3.out.os,hB4.tape.trans HB3.out.tape,hB4.output.trans HB3.out.output,Nat.le_trans HB3.out.size hB4.size,fun k hk hn=>(hO4.out k (by simpa using hn)).trans (hO3.out k (by simpa using hn))⟩
end Go.Proofs.YtocidankimefpaaGreatDoor.hp
namespace Go.Proofs.YtocidankimefpaaGreatDoor.hp
open Go.RowKit rows heads words walks
set_option maxRecDepth 100000
set_option linter.unusedVariables false
structure ChP (S:Nat→Prop) (w w':World):Prop where
 os:w'.os=w.os
 tape:w'.tape=w.tape
 output:w'.output=w.output
 size:w.heap.size≤w'.heap.size
 block:∀k,k<w.heap.size→¬S k→w'.heap[k]? = w.heap[k]?
theorem ChP.refl (S:Nat→Prop) (w:World):ChP S w w:=⟨rfl,rfl,rfl,Nat.le_refl _,fun _ _ _=>rfl⟩
theorem ChP.trans {S S':Nat→Prop} {a b c:World} (h:ChP S a b) (k:ChP S' b c) (hs:∀j,S' j→S j∨a.heap.size≤j):ChP S a c:=
 ⟨k.os.trans h.os,k.tape.trans h.tape,k.output.trans h.output,Nat.le_trans h.size k.size,fun i hi hn=>(k.block i (Nat.lt_of_lt_of_le hi h.size) (fun e=>(hs i e).elim hn (fun e=>by omega))).trans (h.block i hi hn)⟩
theorem chP_below {S:Nat→Prop} {a b:World} (h:Below a.heap.size a b):ChP S a b:=⟨h.os,h.tape,h.output,h.size,fun k hk _=>h.block k hk⟩
theorem chP_ch {S:Nat→Prop} {T:List Nat} {a b:World} (h:Ch T a b) (hs:∀k ∈ T,S k):ChP S a b:=⟨h.os,h.tape,h.output,h.size,fun k hk hn=>h.block k hk (fun e=>hn (hs k e))⟩
theorem below_chP {S:Nat→Prop} {B:Nat} {a b:World} (h:ChP S a b) (hb:B≤a.heap.size) (hs:∀k,S k→B≤k):Below B a b:=⟨h.os,h.tape,h.output,h.size,fun k hk=>h.block k (by omega) (fun e=>by have:=hs k e;omega)⟩
theorem own_chP {S:Nat→Prop} {w w':World} {base:Nat} {v:Value} {xs:List Int} (h:rows.Own w base v xs) (hc:ChP S w w') (hd:∀k ∈ blk v,¬S k):rows.Own w' base v xs:=by
 obtain⟨h0,⟨h1,h2⟩|⟨g,cap,cur,h1,hg,hh,hr⟩⟩:=h
 ·exact⟨h0,.inl ⟨h1,h2⟩⟩
 ·subst h1
  exact⟨h0,.inr ⟨g,cap,cur,rfl,hg,(hc.block g (lt_of_block hh) (hd g (by simp[blk,Value.ownBlock]))).trans hh,hr⟩⟩
end Go.Proofs.YtocidankimefpaaGreatDoor.hp
