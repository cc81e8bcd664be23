/-
  Chapter 8 as the program has it: a free chunk written into a row. Chapter 8 as the specification has it: a free chunk written, what is freed. Chapter 9: a new heap; by the specification and by the program. Chapter 9: a new heap, where its numbers are right; by the specification. Chapter 9: what the 
-/
import Derived.Test.YtocidankimefpaaGreatDoorM4
import Derived.Test.YtocidankimefpaaGreatDoorM1
import Derived.Test.YtocidankimefpaaGreatDoorM9
import Derived.Test.YtocidankimefpaaGreatDoorM3
import Derived.Deep.RegionLaw
import Derived.Test.YtocidankimefpaaGreatDoorM7
import Derived.Test.YtocidankimefpaaGreatDoorM8
import Derived.Deep.Upon
import Derived.Lib.Hide
import Derived.Maps.AppendAt
namespace Go.Proofs.YtocidankimefpaaGreatDoor.walks
open Go.RowKit rows heads words
set_option maxRecDepth 100000
abbrev fcv (k n:Int):Value:=.agg #[.int .i64 k,.int .i64 n]
abbrev fcb (k n:Int):Obj:=.cells #[.int .i64 k,.int .i64 n] 121
theorem end_any (k n:Nat) (h:k+n≤1048576) (w:World) :
    Calls Tryz.prog 124 #[fcv k n] w fun e w'=>e = .returned (.int .i64 ((k+n:Nat):Int))∧w'=w.alloc (fcb k n):=by
 go_enter Tryz.func124,Tryz.ntmps124
 go_wp2
 go_ret
 exact⟨by go_num,rfl⟩
theorem zeroI:∀w,(zeroValue 2).run Tryz.prog w = .ok (.int .i64 0) w:=fun w=>by go_simp
theorem splice_fill {xs:List Int} {k n:Nat}:splice (cellsOf xs) k (List.replicate n (.int .i64 0))=cellsOf (fill xs k n 0):=by
 simp[splice,cellsOf,fill,List.map_take,List.map_drop]
theorem step_clear_ints {w:World} {ops:Array Oper} {o:Oper} {a:Act} {K:Act→World→Prop} {Q:Exit→Act→World→Prop} {E:Prop} (hgd:o.guard=none) (s:Operand)
    (ho:o.op = .call { callee:=.builtin .clear,args:=#[s],argTypes:=#[22] }) {g k n c:Nat} {xs:List Int} (hs:a.eval s = .slice (some ⟨g,k,none⟩) n c) (hn:0<n) (hF:Full w g xs) (hfit:k+n≤xs.length)
    (h:∀w',Hid (Full w' g (fill xs k n 0))→Hid (w.grownBy w' (some g))→K (a.put o.dst (.tuple #[])) w') :
    if Region.wanted o (yielded ops a.tmps)=true then Oper.wp Tryz.prog o a w K Q else E:=by
 have hw:Region.wanted o (yielded ops a.tmps)=true:=by simp[Region.wanted,hgd]
 rw[if_pos hw]
 have hz:(Builtin.zeroCells (Value.int .i64 0).cells n).toList=List.replicate n (.int .i64 0):=by
  simp[Builtin.zeroCells,Value.cells]
  apply List.ext_getElem
  ·simp
  ·intro i h1 h2
   simp[Nat.mod_one]
 obtain⟨w',hrun,r1,r2,r3⟩:=copyk.run_clear_k (P:=Tryz.prog) w 22 2 o.type (.int .i64 0) 1 Tryz.underlying22 zeroI (some ⟨g,k,none⟩) n c g k (cellsOf xs) 2 hF (fun _=>rfl) (by rw[hz];simp) (by rw[hz];intro v hv;rw[List.eq_of_mem_replicate hv];rfl) (by simp;omega)
 rw[if_neg (by omega),hz,splice_fill]at r1
 have b0:=r3 (Below.refl 0 w) (Nat.zero_le _)
 unfold Oper.wp
 simp[execOp,ho,resolve,invoke,builtin,hs,hrun,Result.andThen]
 exact h w' r1 ⟨b0.os,b0.tape,b0.output,b0.size,fun j _ hj=>r2 j (fun e=>hj (by rw[e]))⟩
theorem grown_two {a b c:World} {r:Option Nat} (h:a.grownBy b r) (k:b.grownBy c r):a.grownBy c r:=
 ⟨k.os.trans h.os,k.tape.trans h.tape,k.output.trans h.output,Nat.le_trans h.size k.size,fun j hj hn=>(k.block j (Nat.lt_of_lt_of_le hj h.size) hn).trans (h.block j hj hn)⟩
theorem grown_bel' {w w':World} (hb:Below w.heap.size w w') (r:Option Nat):w.grownBy w' r:=⟨hb.os,hb.tape,hb.output,hb.size,fun k hk _=>hb.block k hk⟩
theorem full_bel {w w':World} {b:Nat} {xs:List Int} (h:Full w b xs) (hb:Below w.heap.size w w'):Full w' b xs:=(hb.block b (lt_of_block h)).trans h
theorem fc_cells {w:World} {b:Nat} {k n:Int} (h:w.heap[b]? = some (fcb k n)):w.cell? ⟨b,0,none⟩=some (.int .i64 k)∧w.cell? ⟨b,1,none⟩=some (.int .i64 n):=⟨by simp[World.cell?, h],by simp[World.cell?, h]⟩
theorem grown_setG {w w':World} {g:Nat} (h:w.grownBy w' (some g)) (k:Nat) (u:Value):w.grownBy (w'.setCell ⟨g,k,none⟩ u) (some g):=
 ⟨h.os,h.tape,h.output,by simpa using h.size,fun k' hk hne=>(Below.heap_setCell w' _ u k' (fun e=>hne (by simp[e]))).trans (h.block k' hk hne)⟩
set_option maxHeartbeats 2000000 in
theorem putHead_any {w:World} {g len cap k n:Nat} {xs:List Int} (F:Full w g xs) (hx:xs.length=len) (hl:len≤1048576) (h2:2≤n) (hkn:k+n≤len) :
    Calls Tryz.prog 125 #[fcv k n,.slice (some ⟨g,0,none⟩) len cap] w fun e w'=>e = .returned (.tuple #[])∧Full w' g ((xs.set k (pk 0 6 0 0 false false)).set (k+1) n)∧w.grownBy w' (some g):=by
 subst hx
 have PK:=packed_any 0 6 0 0 false false
 rw[show pkd 0 6 0 0 false false=pk 0 6 0 0 false false by decide]at PK
 generalize pk 0 6 0 0 false false=hd at *
 have hg:=lt_of_block F
 have F0:Full (w.alloc (fcb k n)) g xs:=(Below.heap_alloc w _ g hg).trans F
 have G0:w.grownBy (w.alloc (fcb k n)) (some g):=World.grownBy_alloc w _ _
 have B0:(w.alloc (fcb k n)).heap[w.heap.size]? = some (fcb k n):=heap_alloc_new _ _
 have ne:w.heap.size≠g:=by omega
 obtain⟨b0,b1⟩:=fc_cells B0
 have c0:=full_cell F0 (show k<xs.length by omega)
 have q0:=full_frozen F0 k
 have HALL:Hid (∀w4,w4=((w.alloc (fcb k n)).drew.alloc (hb 0 6 0 0 false false)).alloc (hb 0 6 0 0 false false) →
     (w4.cell? ⟨w.heap.size,0,none⟩=some (.int .i64 k)∧w4.cell? ⟨g,k,none⟩=some (.int .i64 (xs.getD k 0))∧w4.frozen? ⟨g,k,none⟩=false) ∧
     ((w4.setCell ⟨g,k,none⟩ (.int .i64 hd)).cell? ⟨w.heap.size,0,none⟩=some (.int .i64 k)∧(w4.setCell ⟨g,k,none⟩ (.int .i64 hd)).cell? ⟨w.heap.size,1,none⟩=some (.int .i64 n)∧(w4.setCell ⟨g,k,none⟩ (.int .i64 hd)).cell? ⟨g,k+1,none⟩=some (.int .i64 ((xs.set k hd).getD (k+1) 0))∧(w4.setCell ⟨g,k,none⟩ (.int .i64 hd)).frozen? ⟨g,k+1,none⟩=false) ∧
     Full ((w4.setCell ⟨g,k,none⟩ (.int .i64 hd)).setCell ⟨g,k+1,none⟩ (.int .i64 n)) g ((xs.set k hd).set (k+1) n)∧w.grownBy ((w4.setCell ⟨g,k,none⟩ (.int .i64 hd)).setCell ⟨g,k+1,none⟩ (.int .i64 n)) (some g)):=by
  rintro w4 hw4
  have b4:Below (w.alloc (fcb k n)).heap.size (w.alloc (fcb k n)) w4:=by rw[hw4];exact ((Below.refl (w.alloc (fcb k n)).heap.size (w.alloc (fcb k n))).drew.alloc (by simp[World.drew]) _).alloc (by simp[World.drew]) _
  have F4:=full_bel F0 b4
  have T4:=(b4.block w.heap.size (by simp)).trans B0
  have F5:=full_set F4 k hd
  have T5:=(Below.heap_setCell w4 ⟨g,k,none⟩ (.int .i64 hd) w.heap.size ne).trans T4
  exact⟨⟨(fc_cells T4).1,full_cell F4 (by omega),full_frozen F4 k⟩,⟨(fc_cells T5).1,(fc_cells T5).2,full_cell F5 (by simp;omega),full_frozen F5 _⟩,full_set F5 (k+1) n,grown_setG (grown_setG (grown_two G0 (grown_bel' b4 _)) k _) (k+1) _⟩
 have hk:k<xs.length:=by omega
 have hk1:k+1<xs.length:=by omega
 clear F F0 G0 B0
 generalize xs.getD k 0=z0 at *
 generalize (xs.set k hd).getD (k+1) 0=z1 at *
 generalize hR:(xs.set k hd).set (k+1) (n:Int)=R at *
 clear hR
 go_enter Tryz.func125,Tryz.ntmps125
 go_wp2_with fail
 go_region_law (go_simp;go_at_call 24;refine (PK _).mono ?_;clear PK;rintro e w4 ⟨rfl,hw4⟩;obtain⟨⟨d0,d1,d2⟩,⟨d3,d4,d5,d6⟩,d7⟩:=HALL.out w4 hw4;have HD:Hid _:=d7;clear d7 hw4 HALL)
 all_goals go_wp2
 all_goals go_end0
 all_goals exact⟨rfl,HD.out⟩
set_option maxHeartbeats 2000000 in
theorem putEmpty_any {w:World} {g len cap k n:Nat} {xs:List Int} (F:Full w g xs) (hx:xs.length=len) (hl:len≤1048576) (h2:2≤n) (hkn:k+n≤len) (hc:len≤cap) :
    Calls Tryz.prog 79 #[fcv k n,.slice (some ⟨g,0,none⟩) len cap] w fun e w'=>e = .returned (.tuple #[])∧Full w' g (freeR xs k n)∧w.grownBy w' (some g):=by
 subst hx
 have hg:=lt_of_block F
 have F0:Full (w.alloc (fcb k n)) g xs:=(Below.heap_alloc w _ g hg).trans F
 have G0:w.grownBy (w.alloc (fcb k n)) (some g):=World.grownBy_alloc w _ _
 have B0:(w.alloc (fcb k n)).heap[w.heap.size]? = some (fcb k n):=heap_alloc_new _ _
 have ne:w.heap.size≠g:=by omega
 obtain⟨b0,b1⟩:=fc_cells B0
 have EN:=end_any k n (by omega)
 have HALL:Hid (∀w4,w4=((w.alloc (fcb k n)).drew.alloc (fcb k n))→(w4.cell? ⟨w.heap.size,0,none⟩=some (.int .i64 k)∧w4.cell? ⟨w.heap.size,1,none⟩=some (.int .i64 n))∧Full w4 g xs ∧
     ∀w5,Full w5 g (fill xs k n 0)→w4.grownBy w5 (some g)→(w5.cell? ⟨w.heap.size,0,none⟩=some (.int .i64 k)∧w5.cell? ⟨w.heap.size,1,none⟩=some (.int .i64 n))∧w.grownBy w5 (some g)):=by
  rintro w4 hw4
  have b4:Below (w.alloc (fcb k n)).heap.size (w.alloc (fcb k n)) w4:=by rw[hw4];exact (Below.refl (w.alloc (fcb k n)).heap.size (w.alloc (fcb k n))).drew.alloc (by simp[World.drew]) _
  have F4:=full_bel F0 b4
  have T4:=(b4.block w.heap.size (by simp)).trans B0
  refine⟨fc_cells T4,F4,fun w5 F5 g5=>⟨fc_cells ((g5.block w.heap.size (lt_of_block T4) (fun e=>ne (by injection e))).trans T4),grown_two (grown_two G0 (grown_bel' b4 _)) g5⟩⟩
 have HFR:Hid _:=freeR_set hkn h2
 have hfl:(fill xs k n 0).length=xs.length:=fill_length hkn
 have q1:(0:Int)≤(k:Int)+n:=by omega
 have q2:(k:Int)+n≤cap:=by omega
 have q3:((k:Int)+(n:Int)).toNat=k+n:=by omega
 have q4:¬cap=k:=by omega
 clear F F0 G0 B0
 go_enter Tryz.func79,Tryz.ntmps79
 go_wp2_with fail
 go_region_law (first
  |(go_simp;go_at_call 124;refine (EN _).mono ?_;clear EN;rintro e w4 ⟨rfl,hw4⟩;obtain⟨⟨d0,d1⟩,d2,d3⟩:=HALL.out w4 hw4;have HF4:Hid _:=d2;have HN:Hid _:=d3;clear d2 d3 hw4 HALL)
  |(refine step_clear_ints rfl (.tmp 9) rfl (g:=g) (k:=k) (n:=n) (c:=cap-k) (xs:=xs) (by first|rfl|(simp[go_sem];done)) (by omega) HF4.out hkn ?_;intro w5 f5 g5;obtain⟨⟨m0,m1⟩,m2⟩:=HN.out w5 f5.out g5.out;have HG5:Hid _:=m2;clear m2 g5 HN HF4))
 all_goals go_wp2_with fail
 all_goals refine (putHead_any f5.out hfl hl h2 hkn).mono ?_
 all_goals rintro e w6 ⟨rfl,F6,G6⟩
 all_goals rw[HFR.out]at F6
 all_goals have HF:Hid _:=F6
 all_goals have HG:Hid _:=grown_two HG5.out G6
 all_goals clear F6 G6 HG5 f5
 all_goals go_wp2
 all_goals go_end0
 all_goals exact⟨rfl,HF.out,HG.out⟩
end Go.Proofs.YtocidankimefpaaGreatDoor.walks
namespace Go.Proofs.YtocidankimefpaaGreatDoor.hp
open Go.RowKit rows heads words walks
set_option maxRecDepth 100000
set_option linter.unusedVariables false
set_option linter.unusedSimpArgs false
def evn (lo hi x:Int):Bool:=inR lo hi x&&decide (x % 2=0)
def hp0:Hp:=⟨0,0,[],0,0,[],[],[],0⟩
theorem inR_true {lo hi x:Int} (h:inR lo hi x=true):lo≤x∧x≤hi:=by simpa [inR] using h
theorem inR_false {lo hi x:Int} (h:inR lo hi x=false):¬(lo≤x∧x≤hi):=by simpa [inR] using h
theorem evn_true {lo hi x:Int} (h:evn lo hi x=true):lo≤x∧x≤hi∧x % 2=0:=by
 simp only[evn,Bool.and_eq_true,decide_eq_true_eq]at h
 exact⟨(inR_true h.1).1,(inR_true h.1).2,h.2⟩
set_option maxHeartbeats 2000000 in
theorem evenWithin_any (x lo hi:Int) (hlo:0≤lo) (w:World) :
    Calls Tryz.prog 180 #[.int .i64 x,.int .i64 lo,.int .i64 hi] w fun e w'=>e = .returned (.bool (evn lo hi x))∧w'=w:=by
 by_cases h1:lo≤x
 ·by_cases h2:x≤hi
  ·by_cases h3:x % 2=0
   ·have e:evn lo hi x=true:=by simp[evn,inR,h1,h2,h3]
    rw[e]
    have m1:(x.tmod 2==0)=true:=by rw[Int.tmod_eq_emod_of_nonneg (by omega),h3];rfl
    have m2:(x % 2==0)=true:=by rw[h3];rfl
    clear e h3
    go_enter Tryz.func180,Tryz.ntmps180
    go_wp2
    go_ret
    exact⟨rfl,rfl⟩
   ·have h3':x % 2=1:=by omega
    have e:evn lo hi x=false:=by simp[evn,inR,h1,h2,h3']
    rw[e]
    have m1:(x.tmod 2==0)=false:=by rw[Int.tmod_eq_emod_of_nonneg (by omega),h3'];rfl
    have m2:(x % 2==0)=false:=by rw[h3'];rfl
    clear e h3 h3'
    go_enter Tryz.func180,Tryz.ntmps180
    go_wp2
    go_ret
    exact⟨rfl,rfl⟩
  ·have e:evn lo hi x=false:=by simp[evn,inR,h2]
   rw[e]
   clear e
   go_enter Tryz.func180,Tryz.ntmps180
   go_wp2
   go_ret
   exact⟨rfl,rfl⟩
 ·have e:evn lo hi x=false:=by simp[evn,inR,h1]
  rw[e]
  clear e
  go_enter Tryz.func180,Tryz.ntmps180
  go_wp2
  go_ret
  exact⟨rfl,rfl⟩
theorem sizesOk_any (x y:Int) (w:World) :
    Calls Tryz.prog 150 #[.int .i64 x,.int .i64 y] w fun e w'=>e = .returned (.bool (evn 8 200 x&&evn 8 400 y))∧w'=w:=by
 have E1:=evenWithin_any x 8 200 (by decide)
 have E2:=evenWithin_any y 8 400 (by decide)
 cases d:evn 8 200 x
 ·rw[d]at E1
  go_enter Tryz.func150,Tryz.ntmps150
  go_wp2_with (go_at_call 180;refine (E1 _).mono ?_;clear E1;rintro e w3 ⟨rfl,hw3⟩;rw[hw3];clear hw3 w3)
  go_ret
  exact⟨rfl,rfl⟩
 ·rw[d]at E1
  go_enter Tryz.func150,Tryz.ntmps150
  go_wp2_with (first
   |(have hh:=E1;clear hh;go_at_call 180;refine (E1 _).mono ?_;clear E1;rintro e w3 ⟨rfl,hw3⟩;rw[hw3];clear hw3 w3)
   |(have hh:=E2;clear hh;go_at_call 180;refine (E2 _).mono ?_;clear E2;rintro e w3 ⟨rfl,hw3⟩;rw[hw3];clear hw3 w3))
  go_ret
  exact⟨rfl,rfl⟩
theorem rowLength_any (X Y L:Nat) (hL:2*X+Y=L) (hm:L≤1048576) (w:World) :
    Calls Tryz.prog 81 #[.int .i64 (X:Int),.int .i64 (Y:Int)] w fun e w'=>e = .returned (.int .i64 (L:Int))∧w'=w:=by
 have b1:X≤1048576:=by omega
 have b2:Y≤1048576:=by omega
 have HL:Hid _:=hL
 clear hL
 go_enter Tryz.func81,Tryz.ntmps81
 go_wp2
 go_ret
 exact⟨by rw[←HL.out];go_num,rfl⟩
end Go.Proofs.YtocidankimefpaaGreatDoor.hp
