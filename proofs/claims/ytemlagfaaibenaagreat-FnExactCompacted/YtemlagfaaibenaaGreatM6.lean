/-
  Chapter 4 as the specification has it: PutObject. What the program's ObjectAt answers where there is no object; the words of a chunk. Chapter 8 as the program has it: a free chunk written into a row. Chapter 8 as the specification has it: a free chunk written, what is freed. The places that the prog
-/
import Derived.Test.YtemlagfaaibenaaGreatM5
import Derived.Test.YtemlagfaaibenaaGreatM1
import Derived.Test.YtemlagfaaibenaaGreatWalkIChunk
import Derived.Test.YtemlagfaaibenaaGreatM2
import Derived.Test.YtemlagfaaibenaaGreatM4
import Derived.Test.YtemlagfaaibenaaGreatPack
import Derived.Deep.RegionLaw
import Derived.RangeFuncNested
import Derived.RangeFuncCalls
import Derived.RangeFuncLeaves
import Derived.Shelf.Abstract
import Derived.WalkKit
import Derived.OwnWalkIn
import Derived.TacticsInMore
import Derived.LoopNIn
import Derived.LoopIn
import Derived.Maps.AppendAt
namespace Go.Proofs.YtemlagfaaibenaaGreat.walks
open Go.RowKit rows heads words
set_option maxRecDepth 100000
theorem own_nothing2 {w:World} {base g:Nat} (hg:g=w.heap.size) (hb:base≤g):rows.Own (w.alloc (.cells #[] 2)) base (.slice (some ⟨g,0,none⟩) 0 0) []:=by
 subst hg;exact own_nothing w base hb
theorem all_yes {ys:List Int} (h:∀q,q<ys.length→isW (ys.getD q 0)=true):ys.all isW=true:=by
 rw[List.all_eq_true]
 intro x hx
 obtain⟨q,hq,rfl⟩:=List.mem_iff_getElem.1 hx
 have:=h q hq
 rwa [List.getD_eq_getElem?_getD,List.getElem?_eq_getElem hq]at this
theorem isFree_any (s f c h:Int) (p m:Bool) (u:Value) (w:World) :
    Calls Tryz.prog 108 #[cv s f c h p m u] w fun e w'=>e = .returned (.bool (f==6))∧w'=w.alloc (cb s f c h p m u):=by
 go_enter Tryz.func108,Tryz.ntmps108
 go_wp2
 go_ret
 exact⟨rfl,rfl⟩
theorem slots_any (s f c h:Int) (p m:Bool) (b o N n:Nat) (w:World) (hN:N≤1048576) (hn:(if f=7 then 1 else s)=(n:Int)) (hle:1+n≤N) :
    Calls Tryz.prog 63 #[cv s f c h p m (.slice (some ⟨b,o,none⟩) N N)] w fun e w'=>e = .returned (piece (some ⟨b,o,none⟩) 1 n)∧Below w.heap.size w w':=by
 have B0:Below w.heap.size w ((w.alloc (cb s f c h p m (.slice (some ⟨b,o,none⟩) N N))).alloc (cb s f c h p m (.slice (some ⟨b,o,none⟩) N N))):=((Below.refl _ w).alloc (Nat.le_refl _) _).alloc (by simp) _
 have HB:Hid _:=B0
 clear B0
 by_cases h7:f=7
 ·subst h7
  have e1:n=1:=by simp at hn;omega
  subst e1
  go_enter Tryz.func63,Tryz.ntmps63
  go_wp2_with (go_at_call 62;refine (isNote_any _ _ _ _ _ _ _ _).mono ?_;rintro e w1 ⟨rfl,rfl⟩)
  all_goals go_ret
  all_goals exact⟨by simp[piece,Addr.add],HB⟩
 ·have h7':(f==7)=false:=by simpa using h7
  rw[if_neg h7]at hn
  subst hn
  go_enter Tryz.func63,Tryz.ntmps63
  go_wp2_with (go_at_call 62;refine (isNote_any _ _ _ _ _ _ _ _).mono ?_;rintro e w1 ⟨rfl,rfl⟩)
  ·have e0:n=0:=by omega
   subst e0
   go_ret
   exact⟨by simp[piece],HB⟩
  ·go_ret
   exact⟨by simp[piece,Addr.add, *],HB⟩
theorem piece_is {w:World} {a:Option Addr} {cap:Nat} {xs:List Int} (h:IntsAt w (.slice a xs.length cap) xs) (hl:xs.length≤1048576) (k n:Nat) (hk:k+n≤xs.length):IntsAt w (piece a k n) ((xs.drop k).take n):=by
 obtain⟨a',cap',e,hlc,hcm,hnil,hc⟩:=h
 injection e with e1 e2 e3
 subst e1 e3
 have el:((xs.drop k).take n).length=n:=by simp;omega
 by_cases h0:n=0
 ·subst h0
  rw[piece_none]
  exact⟨a,0,by simp,by simp,by decide,fun _=>rfl,fun h=>by simp at h⟩
 ·obtain⟨b,off,rfl,hb,hcc⟩:=hc (by omega)
  rw[piece_at b off k n (by omega)]
  refine⟨_,n,by rw[el],by omega,by unfold maxLen;omega,fun h=>by simp at h,fun _=>⟨b,off+k,rfl,hb,fun i hi => ?_⟩⟩
  rw[el]at hi
  have:=hcc (k+i) (by omega)
  rw[Nat.add_assoc,this]
  simp[List.getD_eq_getElem?_getD,hi]
abbrev fcv (k n:Int):Value:=.agg #[.int .i64 k,.int .i64 n]
abbrev fcb (k n:Int):Obj:=.cells #[.int .i64 k,.int .i64 n] 95
theorem end_any (k n:Nat) (h:k+n≤1048576) (w:World) :
    Calls Tryz.prog 145 #[fcv k n] w fun e w'=>e = .returned (.int .i64 ((k+n:Nat):Int))∧w'=w.alloc (fcb k n):=by
 go_enter Tryz.func145,Tryz.ntmps145
 go_wp2
 go_ret
 exact⟨by go_num,rfl⟩
theorem zeroI:∀w,(zeroValue 2).run Tryz.prog w = .ok (.int .i64 0) w:=fun w=>by go_simp
theorem splice_fill {xs:List Int} {k n:Nat}:splice (cellsOf xs) k (List.replicate n (.int .i64 0))=cellsOf (fill xs k n 0):=by
 simp[splice,cellsOf,fill,List.map_take,List.map_drop]
theorem step_clear_ints {w:World} {ops:Array Oper} {o:Oper} {a:Act} {K:Act→World→Prop} {Q:Exit→Act→World→Prop} {E:Prop} (hgd:o.guard=none) (s:Operand)
    (ho:o.op = .call { callee:=.builtin .clear,args:=#[s],argTypes:=#[22] }) {g k n c:Nat} {xs:List Int} (hs:a.eval s = .slice (some ⟨g,k,none⟩) n c) (hn:0<n) (hF:Full w g xs) (hfit:k+n≤xs.length)
    (h:∀w',Hid (Full w' g (fill xs k n 0))→Hid (w.grownBy w' (some g))→K (a.put o.dst (.tuple #[])) w') :
    if Region.wanted o (yielded ops a.tmps)=true then Oper.wp Tryz.prog o a w K Q else E:=by
 have hw:Region.wanted o (yielded ops a.tmps)=true:=by simp[Region.wanted,hgd]
 rw[if_pos hw]
 have hz:(Builtin.zeroCells (Value.int .i64 0).cells n).toList=List.replicate n (.int .i64 0):=by
  simp[Builtin.zeroCells,Value.cells]
  apply List.ext_getElem
  ·simp
  ·intro i h1 h2
   simp[Nat.mod_one]
 obtain⟨w',hrun,r1,r2,r3⟩:=copyk.run_clear_k (P:=Tryz.prog) w 22 2 o.type (.int .i64 0) 1 Tryz.underlying22 zeroI (some ⟨g,k,none⟩) n c g k (cellsOf xs) 2 hF (fun _=>rfl) (by rw[hz];simp) (by rw[hz];intro v hv;rw[List.eq_of_mem_replicate hv];rfl) (by simp;omega)
 rw[if_neg (by omega),hz,splice_fill]at r1
 have b0:=r3 (Below.refl 0 w) (Nat.zero_le _)
 unfold Oper.wp
 simp[execOp,ho,resolve,invoke,builtin,hs,hrun,Result.andThen]
 exact h w' r1 ⟨b0.os,b0.tape,b0.output,b0.size,fun j _ hj=>r2 j (fun e=>hj (by rw[e]))⟩
theorem grown_two {a b c:World} {r:Option Nat} (h:a.grownBy b r) (k:b.grownBy c r):a.grownBy c r:=
 ⟨k.os.trans h.os,k.tape.trans h.tape,k.output.trans h.output,Nat.le_trans h.size k.size,fun j hj hn=>(k.block j (Nat.lt_of_lt_of_le hj h.size) hn).trans (h.block j hj hn)⟩
theorem grown_bel' {w w':World} (hb:Below w.heap.size w w') (r:Option Nat):w.grownBy w' r:=⟨hb.os,hb.tape,hb.output,hb.size,fun k hk _=>hb.block k hk⟩
theorem full_bel {w w':World} {b:Nat} {xs:List Int} (h:Full w b xs) (hb:Below w.heap.size w w'):Full w' b xs:=(hb.block b (lt_of_block h)).trans h
theorem fc_cells {w:World} {b:Nat} {k n:Int} (h:w.heap[b]? = some (fcb k n)):w.cell? ⟨b,0,none⟩=some (.int .i64 k)∧w.cell? ⟨b,1,none⟩=some (.int .i64 n):=⟨by simp[World.cell?, h],by simp[World.cell?, h]⟩
theorem grown_setG {w w':World} {g:Nat} (h:w.grownBy w' (some g)) (k:Nat) (u:Value):w.grownBy (w'.setCell ⟨g,k,none⟩ u) (some g):=
 ⟨h.os,h.tape,h.output,by simpa using h.size,fun k' hk hne=>(Below.heap_setCell w' _ u k' (fun e=>hne (by simp[e]))).trans (h.block k' hk hne)⟩
set_option maxHeartbeats 2000000 in
theorem putHead_any {w:World} {g len cap k n:Nat} {xs:List Int} (F:Full w g xs) (hx:xs.length=len) (hl:len≤1048576) (h2:2≤n) (hkn:k+n≤len) :
    Calls Tryz.prog 71 #[fcv k n,.slice (some ⟨g,0,none⟩) len cap] w fun e w'=>e = .returned (.tuple #[])∧Full w' g ((xs.set k (pk 0 6 0 0 false false)).set (k+1) n)∧w.grownBy w' (some g):=by
 subst hx
 have PK:=packed_any 0 6 0 0 false false
 rw[show pkd 0 6 0 0 false false=pk 0 6 0 0 false false by decide]at PK
 generalize pk 0 6 0 0 false false=hd at *
 have hg:=lt_of_block F
 have F0:Full (w.alloc (fcb k n)) g xs:=(Below.heap_alloc w _ g hg).trans F
 have G0:w.grownBy (w.alloc (fcb k n)) (some g):=World.grownBy_alloc w _ _
 have B0:(w.alloc (fcb k n)).heap[w.heap.size]? = some (fcb k n):=heap_alloc_new _ _
 have ne:w.heap.size≠g:=by omega
 obtain⟨b0,b1⟩:=fc_cells B0
 have c0:=full_cell F0 (show k<xs.length by omega)
 have q0:=full_frozen F0 k
 have HALL:Hid (∀w4,w4=((w.alloc (fcb k n)).drew.alloc (hb 0 6 0 0 false false)).alloc (hb 0 6 0 0 false false) →
     (w4.cell? ⟨w.heap.size,0,none⟩=some (.int .i64 k)∧w4.cell? ⟨g,k,none⟩=some (.int .i64 (xs.getD k 0))∧w4.frozen? ⟨g,k,none⟩=false) ∧
     ((w4.setCell ⟨g,k,none⟩ (.int .i64 hd)).cell? ⟨w.heap.size,0,none⟩=some (.int .i64 k)∧(w4.setCell ⟨g,k,none⟩ (.int .i64 hd)).cell? ⟨w.heap.size,1,none⟩=some (.int .i64 n)∧(w4.setCell ⟨g,k,none⟩ (.int .i64 hd)).cell? ⟨g,k+1,none⟩=some (.int .i64 ((xs.set k hd).getD (k+1) 0))∧(w4.setCell ⟨g,k,none⟩ (.int .i64 hd)).frozen? ⟨g,k+1,none⟩=false) ∧
     Full ((w4.setCell ⟨g,k,none⟩ (.int .i64 hd)).setCell ⟨g,k+1,none⟩ (.int .i64 n)) g ((xs.set k hd).set (k+1) n)∧w.grownBy ((w4.setCell ⟨g,k,none⟩ (.int .i64 hd)).setCell ⟨g,k+1,none⟩ (.int .i64 n)) (some g)):=by
  rintro w4 hw4
  have b4:Below (w.alloc (fcb k n)).heap.size (w.alloc (fcb k n)) w4:=by rw[hw4];exact ((Below.refl (w.alloc (fcb k n)).heap.size (w.alloc (fcb k n))).drew.alloc (by simp[World.drew]) _).alloc (by simp[World.drew]) _
  have F4:=full_bel F0 b4
  have T4:=(b4.block w.heap.size (by simp)).trans B0
  have F5:=full_set F4 k hd
  have T5:=(Below.heap_setCell w4 ⟨g,k,none⟩ (.int .i64 hd) w.heap.size ne).trans T4
  exact⟨⟨(fc_cells T4).1,full_cell F4 (by omega),full_frozen F4 k⟩,⟨(fc_cells T5).1,(fc_cells T5).2,full_cell F5 (by simp;omega),full_frozen F5 _⟩,full_set F5 (k+1) n,grown_setG (grown_setG (grown_two G0 (grown_bel' b4 _)) k _) (k+1) _⟩
 have hk:k<xs.length:=by omega
 have hk1:k+1<xs.length:=by omega
 clear F F0 G0 B0
 generalize xs.getD k 0=z0 at *
 generalize (xs.set k hd).getD (k+1) 0=z1 at *
 generalize hR:(xs.set k hd).set (k+1) (n:Int)=R at *
 clear hR
 go_enter Tryz.func71,Tryz.ntmps71
 go_wp2_with fail
 go_region_law (go_simp;go_at_call 80;refine (PK _).mono ?_;clear PK;rintro e w4 ⟨rfl,hw4⟩;obtain⟨⟨d0,d1,d2⟩,⟨d3,d4,d5,d6⟩,d7⟩:=HALL.out w4 hw4;have HD:Hid _:=d7;clear d7 hw4 HALL)
 all_goals go_wp2
 all_goals go_end0
 all_goals exact⟨rfl,HD.out⟩
set_option maxHeartbeats 2000000 in
theorem putEmpty_any {w:World} {g len cap k n:Nat} {xs:List Int} (F:Full w g xs) (hx:xs.length=len) (hl:len≤1048576) (h2:2≤n) (hkn:k+n≤len) (hc:len≤cap) :
    Calls Tryz.prog 129 #[fcv k n,.slice (some ⟨g,0,none⟩) len cap] w fun e w'=>e = .returned (.tuple #[])∧Full w' g (freeR xs k n)∧w.grownBy w' (some g):=by
 subst hx
 have hg:=lt_of_block F
 have F0:Full (w.alloc (fcb k n)) g xs:=(Below.heap_alloc w _ g hg).trans F
 have G0:w.grownBy (w.alloc (fcb k n)) (some g):=World.grownBy_alloc w _ _
 have B0:(w.alloc (fcb k n)).heap[w.heap.size]? = some (fcb k n):=heap_alloc_new _ _
 have ne:w.heap.size≠g:=by omega
 obtain⟨b0,b1⟩:=fc_cells B0
 have EN:=end_any k n (by omega)
 have HALL:Hid (∀w4,w4=((w.alloc (fcb k n)).drew.alloc (fcb k n))→(w4.cell? ⟨w.heap.size,0,none⟩=some (.int .i64 k)∧w4.cell? ⟨w.heap.size,1,none⟩=some (.int .i64 n))∧Full w4 g xs ∧
     ∀w5,Full w5 g (fill xs k n 0)→w4.grownBy w5 (some g)→(w5.cell? ⟨w.heap.size,0,none⟩=some (.int .i64 k)∧w5.cell? ⟨w.heap.size,1,none⟩=some (.int .i64 n))∧w.grownBy w5 (some g)):=by
  rintro w4 hw4
  have b4:Below (w.alloc (fcb k n)).heap.size (w.alloc (fcb k n)) w4:=by rw[hw4];exact (Below.refl (w.alloc (fcb k n)).heap.size (w.alloc (fcb k n))).drew.alloc (by simp[World.drew]) _
  have F4:=full_bel F0 b4
  have T4:=(b4.block w.heap.size (by simp)).trans B0
  refine⟨fc_cells T4,F4,fun w5 F5 g5=>⟨fc_cells ((g5.block w.heap.size (lt_of_block T4) (fun e=>ne (by injection e))).trans T4),grown_two (grown_two G0 (grown_bel' b4 _)) g5⟩⟩
 have HFR:Hid _:=freeR_set hkn h2
 have hfl:(fill xs k n 0).length=xs.length:=fill_length hkn
 have q1:(0:Int)≤(k:Int)+n:=by omega
 have q2:(k:Int)+n≤cap:=by omega
 have q3:((k:Int)+(n:Int)).toNat=k+n:=by omega
 have q4:¬cap=k:=by omega
 clear F F0 G0 B0
 go_enter Tryz.func129,Tryz.ntmps129
 go_wp2_with fail
 go_region_law (first
  |(go_simp;go_at_call 145;refine (EN _).mono ?_;clear EN;rintro e w4 ⟨rfl,hw4⟩;obtain⟨⟨d0,d1⟩,d2,d3⟩:=HALL.out w4 hw4;have HF4:Hid _:=d2;have HN:Hid _:=d3;clear d2 d3 hw4 HALL)
  |(refine step_clear_ints rfl (.tmp 9) rfl (g:=g) (k:=k) (n:=n) (c:=cap-k) (xs:=xs) (by first|rfl|(simp[go_sem];done)) (by omega) HF4.out hkn ?_;intro w5 f5 g5;obtain⟨⟨m0,m1⟩,m2⟩:=HN.out w5 f5.out g5.out;have HG5:Hid _:=m2;clear m2 g5 HN HF4))
 all_goals go_wp2_with fail
 all_goals refine (putHead_any f5.out hfl hl h2 hkn).mono ?_
 all_goals rintro e w6 ⟨rfl,F6,G6⟩
 all_goals rw[HFR.out]at F6
 all_goals have HF:Hid _:=F6
 all_goals have HG:Hid _:=grown_two HG5.out G6
 all_goals clear F6 G6 HG5 f5
 all_goals go_wp2
 all_goals go_end0
 all_goals exact⟨rfl,HF.out,HG.out⟩
end Go.Proofs.YtemlagfaaibenaaGreat.walks
namespace Go.Proofs.YtemlagfaaibenaaGreat.walks
open Go.RowKit rows heads words
abbrev Pl:=Fin 1001
def pls (ys:List Int):Nat→Nat→List Pl
 |0,_=>[]
 |n+1,k=>if h:k≤1000 then (if chunk ys k=0 then [] else ⟨k,by omega⟩ :: pls ys n (k+(chunk ys k).toNat)) else []
theorem pls_end {ys:List Int} {k:Nat} (n:Nat) (h:chunk ys k=0):pls ys n k=[]:=by
 cases n with
 |zero=>rfl
 |succ n=>
  unfold pls
  by_cases hk:k≤1000
  ·rw[dif_pos hk,if_pos h]
  ·rw[dif_neg hk]
theorem pls_step {ys:List Int} {k:Nat} (n:Nat) (hk:k<1001) (h:chunk ys k≠0):pls ys (n+1) k=⟨k,hk⟩ :: pls ys n (k+(chunk ys k).toNat):=by
 conv=>lhs;unfold pls
 rw[dif_pos (by omega),if_neg h]
theorem pls_more (ys:List Int) (hl:ys.length≤1000):∀(n m k:Nat),ys.length-k≤n→ys.length-k≤m→pls ys n k=pls ys m k:=by
 intro n
 induction n with
 |zero=>
  intro m k h _
  have:=chunk_bounds ys k
  rw[pls_end _ (by omega),pls_end _ (by omega)]
 |succ n ih=>
  intro m k h h'
  have:=chunk_bounds ys k
  by_cases h0:chunk ys k=0
  ·rw[pls_end _ h0,pls_end _ h0]
  ·obtain⟨m',rfl⟩:∃m',m=m'+1:=⟨m-1,by omega⟩
   rw[pls_step n (by omega) h0,pls_step m' (by omega) h0,ih m' _ (by omega) (by omega)]
def plO (ys:List Int) (k:Nat):List Pl:=pls ys (ys.length-k) k
theorem plO_end {ys:List Int} {k:Nat} (h:chunk ys k=0):plO ys k=[]:=pls_end _ h
theorem plO_step {ys:List Int} {k:Nat} (hl:ys.length≤1000) (hk:k<1001) (h:chunk ys k≠0):plO ys k=⟨k,hk⟩ :: plO ys (k+(chunk ys k).toNat):=by
 have:=chunk_bounds ys k
 unfold plO
 obtain⟨m,hm⟩:∃m,ys.length-k=m+1:=⟨ys.length-k-1,by omega⟩
 rw[hm,pls_step m hk h,pls_more ys hl m (ys.length-(k+(chunk ys k).toNat)) _ (by omega) (by omega)]
theorem pls_length (ys:List Int):∀(n k:Nat),(pls ys n k).length≤n:=by
 intro n
 induction n with
 |zero=>intro k;simp[pls]
 |succ n ih=>
  intro k
  unfold pls
  split
  ·split
   ·simp
   ·have:=ih (k+(chunk ys k).toNat);simp;omega
  ·simp
theorem plO_length (ys:List Int) (k:Nat):(plO ys k).length≤ys.length:=Nat.le_trans (pls_length ys _ _) (by omega)
def enf (ys:List Int) (e:Int) (l:List Pl):Int:=l.foldl (fun _ x=>(x.val:Int)+chunk ys x.val) e
theorem enf_snoc (ys:List Int) (e:Int) (l:List Pl) (x:Pl):enf ys e (l++[x])=(x.val:Int)+chunk ys x.val:=by simp[enf]
theorem enf_cons (ys:List Int) (e:Int) (x:Pl) (l:List Pl):enf ys e (x :: l)=enf ys ((x.val:Int)+chunk ys x.val) l:=rfl
theorem chunk_take {xs:List Int} {k t:Nat} (hk:k<t) (ht:t≤xs.length):chunk (xs.take t) k=if chunk xs k=0∨(k:Int)+chunk xs k > t then 0 else chunk xs k:=by
 have e0:(xs.take t).getD k 0=xs.getD k 0:=by simp[List.getD_eq_getElem?_getD,hk]
 have e1:k+1<t→(xs.take t).getD (k+1) 0=xs.getD (k+1) 0:=fun h=>by simp[List.getD_eq_getElem?_getD,h]
 have el:(xs.take t).length=t:=by simp;omega
 have bs:=uS_bounds (xs.getD k 0)
 have zs:=sz_bounds bs.1 bs.2
 unfold chunk
 rw[e0,el]
 by_cases ho:(ok (xs.getD k 0) && !uM (xs.getD k 0))=true
 ·simp only[if_pos ho]
  by_cases h6:uF (xs.getD k 0)=6
  ·simp only[if_pos h6]
   by_cases hk1:k+1<t
   ·rw[e1 hk1]
    have hk2:k+1<xs.length:=by omega
    generalize xs.getD (k+1) 0=y
    by_cases hf:freeOk t k y=true
    ·have hf':=hf
     simp only[freeOk,decide_eq_true_eq]at hf'
     have hg:freeOk xs.length k y=true:=by simp only[freeOk,decide_eq_true_eq];omega
     have L:(if k+1<t∧freeOk t k y=true then y else 0)=y:=if_pos ⟨hk1,hf⟩
     have R:(if k+1<xs.length∧freeOk xs.length k y=true then y else 0)=y:=if_pos ⟨hk2,hg⟩
     rw[L,R,if_neg]
     omega
    ·have L:(if k+1<t∧freeOk t k y=true then y else 0)=0:=if_neg (fun h=>hf h.2)
     simp only[freeOk,decide_eq_true_eq]at hf
     by_cases hg:freeOk xs.length k y=true
     ·have hg':=hg
      simp only[freeOk,decide_eq_true_eq]at hg'
      have R:(if k+1<xs.length∧freeOk xs.length k y=true then y else 0)=y:=if_pos ⟨hk2,hg⟩
      rw[L,R,if_pos]
      omega
     ·have R:(if k+1<xs.length∧freeOk xs.length k y=true then y else 0)=0:=if_neg (fun h=>hg h.2)
      rw[L,R,if_pos (.inl rfl)]
   ·generalize (xs.take t).getD (k+1) 0=y'
    generalize xs.getD (k+1) 0=y
    have L:(if k+1<t∧freeOk t k y'=true then y' else 0)=0:=if_neg (fun h=>hk1 h.1)
    rw[L]
    by_cases hg:k+1<xs.length∧freeOk xs.length k y=true
    ·have hg':=hg.2
     simp only[freeOk,decide_eq_true_eq]at hg'
     have R:(if k+1<xs.length∧freeOk xs.length k y=true then y else 0)=y:=if_pos hg
     rw[R,if_pos]
     omega
    ·have R:(if k+1<xs.length∧freeOk xs.length k y=true then y else 0)=0:=if_neg hg
     rw[R,if_pos (.inl rfl)]
  ·simp only[if_neg h6]
   by_cases hc:(k:Int)+sz (uS (xs.getD k 0))≤t
   ·rw[e1 (by omega)]
    generalize sz (uS (xs.getD k 0))=z at *
    by_cases h7:uF (xs.getD k 0)=7→isA (xs.getD (k+1) 0)=true
    ·have L:(if (k:Int)+z≤t∧(uF (xs.getD k 0)=7→isA (xs.getD (k+1) 0)=true) then z else 0)=z:=if_pos ⟨hc,h7⟩
     have R:(if (k:Int)+z≤xs.length∧(uF (xs.getD k 0)=7→isA (xs.getD (k+1) 0)=true) then z else 0)=z:=if_pos ⟨by omega,h7⟩
     rw[L,R,if_neg]
     omega
    ·have L:(if (k:Int)+z≤t∧(uF (xs.getD k 0)=7→isA (xs.getD (k+1) 0)=true) then z else 0)=0:=if_neg (fun h=>h7 h.2)
     have R:(if (k:Int)+z≤xs.length∧(uF (xs.getD k 0)=7→isA (xs.getD (k+1) 0)=true) then z else 0)=0:=if_neg (fun h=>h7 h.2)
     rw[L,R,if_pos (.inl rfl)]
   ·generalize sz (uS (xs.getD k 0))=z at *
    generalize (xs.take t).getD (k+1) 0=y'
    have L:(if (k:Int)+z≤t∧(uF (xs.getD k 0)=7→isA y'=true) then z else 0)=0:=if_neg (fun h=>hc h.1)
    rw[L]
    by_cases hg:(k:Int)+z≤xs.length∧(uF (xs.getD k 0)=7→isA (xs.getD (k+1) 0)=true)
    ·have R:(if (k:Int)+z≤xs.length∧(uF (xs.getD k 0)=7→isA (xs.getD (k+1) 0)=true) then z else 0)=z:=if_pos hg
     rw[R,if_pos]
     omega
    ·have R:(if (k:Int)+z≤xs.length∧(uF (xs.getD k 0)=7→isA (xs.getD (k+1) 0)=true) then z else 0)=0:=if_neg hg
     rw[R,if_pos (.inl rfl)]
 ·simp only[if_neg ho];simp
theorem walk_by {xs:List Int} {t:Nat} (ht:t≤xs.length) (hm:t≤1000):∀(n k:Nat),t-k≤n→k≤t →
    walkO xs k t=if enf (xs.take t) k (plO (xs.take t) k)=t then some ((plO (xs.take t) k).map (fun p=>(p.val:Int))) else none:=by
 have el:(xs.take t).length=t:=by simp;omega
 intro n
 induction n with
 |zero=>
  intro k h1 h2
  have ek:k=t:=by omega
  subst ek
  have:=chunk_bounds (xs.take k) k
  rw[walkO_end (by omega),plO_end (by omega)]
  simp[enf]
 |succ n ih=>
  intro k h1 h2
  by_cases hk:k<t
  ·have ct:=chunk_take hk ht
   by_cases hb:chunk xs k=0∨(k:Int)+chunk xs k > t
   ·rw[if_pos hb]at ct
    rw[walkO_bad hk hb,plO_end ct,if_neg]
    simp[enf];omega
   ·rw[if_neg hb]at ct
    have:=chunk_bounds xs k
    rw[walkO_step hk hb,plO_step (by omega) (show k<1001 by omega) (by omega),enf_cons,ct,ih _ (by omega) (by omega)]
    have e:((k:Int)+chunk xs k)=((k+(chunk xs k).toNat:Nat):Int):=by omega
    rw[e]
    split<;>simp
  ·have ek:k=t:=by omega
   subst ek
   have:=chunk_bounds (xs.take k) k
   rw[walkO_end hk,plO_end (by omega)]
   simp[enf]
end Go.Proofs.YtemlagfaaibenaaGreat.walks
namespace Go.Proofs.YtemlagfaaibenaaGreat.walks
open Go.RowKit Go.Shelf rows heads words
attribute [local go_sem] Oper.semAt_some
abbrev encs (a:Option Addr) (ys:List Int) (x:Pl):Array Value:=
 #[.int .i64 (x.val:Int),cv (uS (ys.getD x.val 0)) (uF (ys.getD x.val 0)) (uC (ys.getD x.val 0)) (uH (ys.getD x.val 0)) (uP (ys.getD x.val 0)) (uM (ys.getD x.val 0)) (piece a x.val (chunk ys x.val).toNat)]
def Kc (n₀ Br:Nat) (W W':World):Prop:=Below n₀ W W'∧W'.heap[Br]? = W.heap[Br]? ∧ ∀(b:Nat) (cs:Array Value),W.heap[b]? = some (Obj.cells cs 44 (0,0))→W'.heap[b]? = some (Obj.cells cs 44 (0,0))
theorem kc_t {n₀ Br:Nat} {A B C:World} (h:Kc n₀ Br A B) (k:Kc n₀ Br B C):Kc n₀ Br A C:=⟨h.1.trans k.1,k.2.1.trans h.2.1,fun b cs e=>k.2.2 b cs (h.2.2 b cs e)⟩
theorem kc_b {n₀ Br:Nat} {w:World} (hn:n₀≤w.heap.size) (hB:Br<w.heap.size) (W:World) (l:Nat) (o o':Obj) (hl:w.heap.size≤l) (h:W.heap[l]? = some o) (hc:o.isCells=false) (hw:o.isWalk=false):Kc n₀ Br W (W.putObj l o'):=
 ⟨belowK_b hn W l o o' hl h hc hw,World.putObj_heap_other (by omega),fun b cs e=>by
  have hne:b≠l:=fun e'=>by subst e';rw[h]at e;cases e;cases hc
  exact (World.putObj_heap_other hne).trans e⟩
theorem grown_of_below {W W':World} (h:Below W.heap.size W W'):W.grownBy W' none:=⟨h.os,h.tape,h.output,h.size,fun i hi _=>h.block i hi⟩
set_option maxRecDepth 100000 in
set_option maxHeartbeats 4000000 in
theorem chunks1_in (n:Nat) (hn:2≤n) (l Br Bf n₀ f:Nat) (a:Option Addr) (cap:Nat) (ys:List Int) (hl:ys.length≤1000) (ha:AllI ys) (hf:f≤1000) (J Jx:List Pl→World→Prop)
    (hY:∀pre x W,J pre W→pre.length<(plO ys f).length→YieldAt Fence.wide (n-1) Tryz.prog l (encs a ys x) W fun e W'=>
     (e = .returned (.bool true)∧J (pre++[x]) W'∧Kc n₀ Br W W')∨(e = .returned (.bool false)∧Jx (pre++[x]) W'))
    (W0:World) (hJ:AbidesFrom W0.heap.size J) (hBr:Boxed W0 Br 22 (.slice a ys.length cap)) (hBf:W0.cell? ⟨Bf,0,none⟩=some (.int .i64 f)) (hI:∀W,Below n₀ W0 W→IntsAt W (.slice a ys.length cap) ys) (h0:J [] W0) (hn₀:n₀≤W0.heap.size) :
    CallsIn Fence.wide n Tryz.prog 150 #[.func (.yield l) #[] #[],.pointer (some ⟨Bf,0,none⟩),.pointer (some ⟨Br,0,none⟩)] W0 fun e W'=>(∃v,e = .returned v) ∧
     ((∃zs,zs=plO ys f∧J zs W')∨(∃pre,pre <+: plO ys f∧Jx pre W')):=by
 refine callsIn_of_wp Tryz.func150 rfl trivial ?_ rfl
 simp only[Tryz.ntmps150,List.size_toArray,List.length_cons,List.length_nil,Nat.reduceAdd,Nat.reduceSub,Array.replicate_succ,Array.replicate_zero,List.push_toArray,List.append_toArray,List.nil_append,List.cons_append]
 gi_wp2
 gi_loopw [4] (fun p wr=>∃(pre:List Pl) (k:Nat),p = .int .i64 (k:Int)∧k≤1000∧plO ys f=pre++plO ys k∧J pre wr∧Below n₀ W0 wr∧Boxed wr Br 22 (.slice a ys.length cap))
  (fun p _=>1001-(intOf p).toNat)
 case atStart=>
  exact⟨[],f,rfl,hf,rfl,h0,Below.refl _ _,hBr⟩
 case round=>
  obtain⟨pre,k,rfl,hk,hL,hJs,hB,bR⟩:=hrel
  have cR:=bR.cell
  have h1:1≤n:=by omega
  cases d:okAt ys k
  ·have e0:chunk ys k=0:=by
     have:=chunk_bounds ys k
     simp[okAt,rowOk,atOk]at d
     omega
   have C:=callsIn_wide (n:=n-1).2 (chunkOf_out (hI wr hB) (by omega) k ⟨by omega,by omega⟩ d)
   clear hY hI
   gi_wp2_with fail
   refine⟨trivial,C.mono ?_⟩
   rintro e w1 ⟨rfl,b1⟩
   have hJ1:=hJ pre wr _ none hJs (grown_of_below (b1.alloc b1.size (cb 0 0 0 0 false false (.slice none 0 0)))) (fun _ e=>by cases e)
   have HE:Hid _:=hJ1
   clear b1 C hJ1 hJ hJs
   gi_wp2
   refine⟨fun _ h=>(by cases h),?_⟩
   gi_wp2
   refine bodyPost_ret (results_none rfl _ _ _) rfl ?_
   exact⟨⟨_,rfl⟩,.inl ⟨pre,by rw[hL,plO_end e0,List.append_nil],HE⟩⟩
  ·have C:=callsIn_wide (n:=n-1).2 (chunkOf_in (hI wr hB) (by omega) ha k d)
   unfold chRes at C
   by_cases e0:chunk ys k=0
   ·rw[if_pos e0]at C
    clear hY hI
    gi_wp2_with fail
    refine⟨trivial,C.mono ?_⟩
    rintro e w1 ⟨rfl,b1⟩
    have hJ1:=hJ pre wr _ none hJs (grown_of_below (b1.alloc b1.size (cb 0 0 0 0 false false (.slice none 0 0)))) (fun _ e=>by cases e)
    have HE:Hid _:=hJ1
    clear b1 C hJ1 hJ hJs
    gi_wp2
    refine⟨fun _ h=>(by cases h),?_⟩
    gi_wp2
    refine bodyPost_ret (results_none rfl _ _ _) rfl ?_
    exact⟨⟨_,rfl⟩,.inl ⟨pre,by rw[hL,plO_end e0,List.append_nil],HE⟩⟩
   ·rw[if_neg e0]at C
    have hpl:=plO_step hl (show k<1001 by omega) e0
    have hlt:pre.length<(plO ys f).length:=by rw[hL,hpl];simp
    have hY1:=fun W hW=>hY pre ⟨k,by omega⟩ W hW hlt
    have cn:=chunk_nat ys k
    have cb2:=chunk_bounds ys k
    have hL2:plO ys f=(pre++[⟨k,by omega⟩])++plO ys (k+(chunk ys k).toNat):=by rw[hL,hpl];simp
    simp only[encs]at hY1
    rw[hpl]at hL
    unfold piece at hY1 C
    generalize hN:(chunk ys k).toNat=N at *
    have hNk:k+N≤1000:=by omega
    have hN2:2≤N:=by omega
    clear hY cn cb2 e0 hN
    generalize uS (ys.getD k 0)=s at *
    generalize uF (ys.getD k 0)=ff at *
    generalize uC (ys.getD k 0)=c at *
    generalize uH (ys.getD k 0)=g at *
    generalize uP (ys.getD k 0)=p at *
    generalize uM (ys.getD k 0)=m at *
    generalize (if N=0 then a else Option.map (fun x=>x.add k) a)=ad at *
    gi_wp2_with fail
    refine⟨trivial,C.mono ?_⟩
    rintro e w1 ⟨rfl,b1⟩
    have hJ1:=hJ pre wr _ none hJs (grown_of_below (b1.alloc b1.size (cb s ff c g p m (.slice ad N N)))) (fun _ e=>by cases e)
    have HB1:=(hB.trans (b1.mono (Nat.le_trans hn₀ hB.size))).alloc (Nat.le_trans (Nat.le_trans hn₀ hB.size) b1.size) (cb s ff c g p m (.slice ad N N))
    have bR1:Boxed (w1.alloc (cb s ff c g p m (.slice ad N N))) Br 22 (.slice a ys.length cap):=bR.kept (grown_of_below (b1.alloc b1.size (cb s ff c g p m (.slice ad N N)))) (by simp)
    have M1:=chAt_new w1 s ff c g p m (.slice ad N N)
    obtain⟨fn,tmps,assign,body,hy,hR⟩:=hY1 _ hJ1
    have HB:Hid _:=HB1
    have HBX:Hid _:=bR1
    have HM:Hid _:=M1
    have HJ:Hid _:=hJ
    clear b1 C hJs hB bR cR hY1 hJ1 HB1 bR1 M1 hJ
    gi_wp2
    refine hR.mono ?_
    rintro e W3 (⟨rfl,hJ3,hk3⟩|⟨rfl,hJx3⟩)
    ·have M3:ChAt W3 w1.heap.size s ff c g p m (.slice ad N N):=hk3.2.2 _ _ HM.out
     have HB3:Hid _:=HB.out.trans hk3.1
     have HR3:Hid (Boxed W3 Br 22 (.slice a ys.length cap)):=hk3.2.1.trans HBX.out
     have HJ4:Hid _:=HJ.out _ W3 _ none hJ3 (grown_of_below ((Below.refl _ W3).alloc (Nat.le_refl _) (cb s ff c g p m (.slice ad N N)))) (fun _ e=>by cases e)
     have HB4:Hid _:=HB3.out.alloc (Nat.le_trans hn₀ HB3.out.size) (cb s ff c g p m (.slice ad N N))
     have HR4:Hid _:=HR3.out.alloc (cb s ff c g p m (.slice ad N N))
     obtain⟨m0,m1,m2,m3,m4,m5,m6,mf⟩:=chAt_cells M3
     clear HB HBX HM hR hy M3 hk3 hJ3 mf HJ HB3 HR3
     gi_wp2_with fail
     refine⟨trivial,(callsIn_wide.2 (size_any s ff c g p m ad N N W3)).mono ?_⟩
     rintro e W4 ⟨rfl,rfl⟩
     gi_wp2
     go_roundw
     case rel=>exact⟨_,k+N,by go_num,hNk,hL2,HJ4,HB4,HR4⟩
     case measure=>simp[intOf];omega
    ·gi_wp2
     refine bodyPost_ret (results_none rfl _ _ _) rfl ?_
     exact⟨⟨_,rfl⟩,.inr ⟨_,⟨plO ys (k+N),hL2.symm⟩,hJx3⟩⟩
theorem chunks_any (a:Option Addr) (len cap:Nat) (f:Int) (w:World) :
    Calls Tryz.prog 144 #[.slice a len cap,.int .i64 f] w fun e w'=>e = .returned (.func (.func 150) #[] #[.pointer (some ⟨w.heap.size+1,0,none⟩),.pointer (some ⟨w.heap.size,0,none⟩)])∧w'=(w.alloc (.cells #[.slice a len cap] 22)).alloc (.cells #[.int .i64 f] 2):=by
 go_enter Tryz.func144,Tryz.ntmps144
 go_wp2
 go_ret
 exact⟨rfl,rfl⟩
theorem chunks_stops (n:Nat) (hn:2≤n) (Br Bf n₀ f:Nat) (a:Option Addr) (cap:Nat) (ys:List Int) (hl:ys.length≤1000) (ha:AllI ys) (hf:f≤1000) (w:World) (h1:Br<w.heap.size) (h2:Bf<w.heap.size) (hn₀:n₀≤w.heap.size)
    (hBr:Boxed w Br 22 (.slice a ys.length cap)) (hBf:w.cell? ⟨Bf,0,none⟩=some (.int .i64 f)) (hI:∀W,Below n₀ w W→IntsAt W (.slice a ys.length cap) ys) :
    SeqStopsK Fence.wide n Tryz.prog 150 #[.pointer (some ⟨Bf,0,none⟩),.pointer (some ⟨Br,0,none⟩)] (encs a ys) (Kc n₀ Br) (fun zs=>zs=plO ys f) (fun pre=>pre <+: plO ys f) (plO ys f).length w:=fun l J Jx W hW hJ _ hY h0=>
 chunks1_in n hn l Br Bf n₀ f a cap ys hl ha hf J Jx hY W hJ ((hW.block Br h1).trans hBr) ((hW.cell (p:=⟨Bf,0,none⟩) h2).trans hBf) (fun W' hW'=>hI W' ((hW.mono hn₀).trans hW')) h0 (Nat.le_trans hn₀ hW.size)
end Go.Proofs.YtemlagfaaibenaaGreat.walks
