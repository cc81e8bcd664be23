/-
  Chapter 9 as the specification has it: the numbers of a heap: the region that asks them, by facts.
  Made from the template HeapS3.
-/
import Derived.Test.YtkiognecebgaiaaGreatDoorM8
import Derived.Test.YtkiognecebgaiaaGreatDoorM5
import Derived.Test.YtkiognecebgaiaaGreatDoorM2
namespace Go.Proofs.YtkiognecebgaiaaGreatDoor.hp
open Go.RowKit rows heads words walks region
set_option maxRecDepth 100000
set_option linter.unusedVariables false
set_option linter.unusedSimpArgs false
def HasG (ops:Array Oper) (k:Nat) (d:Nat) (op:Op) (g:Option (Nat×Bool)):Prop:=∃o,ops[k]? = some o∧o.dst=some d∧o.op=op∧o.guard=g
theorem hasG_at {ops:Array Oper} {k d:Nat} {op:Op} {g:Option (Nat×Bool)} (h:HasG ops k d op g) {o:Oper} (ho:ops[k]? = some o):o.dst=some d∧o.op=op∧o.guard=g:=by
 obtain⟨o',ho',h1,h2,h3⟩:=h
 rw[ho]at ho'
 injection ho' with ho'
 subst ho'
 exact⟨h1,h2,h3⟩
theorem hasG_ex {ops:Array Oper} {k d:Nat} {op:Op} {g:Option (Nat×Bool)} (h:HasG ops k d op g):∃o,ops[k]? = some o∧o.dst=some d:=by
 obtain⟨o,h0,h1,_⟩:=h
 exact⟨o,h0,h1⟩
theorem ri9_f0 (b:Nat) (w:World):(Instr.fieldAt 58 (.pointer (some ⟨b,0,none⟩)) 0).run Tryz.prog w = .ok (.pointer (some ⟨b,0,none⟩)) w:=by
 go_simp
theorem ri9_f1 (b:Nat) (w:World):(Instr.fieldAt 58 (.pointer (some ⟨b,0,none⟩)) 1).run Tryz.prog w = .ok (.pointer (some ⟨b,1,none⟩)) w:=by
 go_simp
theorem ri9_f2 (b:Nat) (w:World):(Instr.fieldAt 58 (.pointer (some ⟨b,0,none⟩)) 2).run Tryz.prog w = .ok (.pointer (some ⟨b,2,none⟩)) w:=by
 go_simp
theorem ri9_f3 (b:Nat) (w:World):(Instr.fieldAt 58 (.pointer (some ⟨b,0,none⟩)) 3).run Tryz.prog w = .ok (.pointer (some ⟨b,3,none⟩)) w:=by
 go_simp
theorem ri9_f4 (b:Nat) (w:World):(Instr.fieldAt 58 (.pointer (some ⟨b,0,none⟩)) 4).run Tryz.prog w = .ok (.pointer (some ⟨b,4,none⟩)) w:=by
 go_simp
theorem ri9_f5 (b:Nat) (w:World):(Instr.fieldAt 58 (.pointer (some ⟨b,0,none⟩)) 5).run Tryz.prog w = .ok (.pointer (some ⟨b,5,none⟩)) w:=by
 go_simp
theorem ri9_f6 (b:Nat) (w:World):(Instr.fieldAt 58 (.pointer (some ⟨b,0,none⟩)) 6).run Tryz.prog w = .ok (.pointer (some ⟨b,6,none⟩)) w:=by
 go_simp
theorem ri9_f8 (b:Nat) (w:World):(Instr.fieldAt 58 (.pointer (some ⟨b,0,none⟩)) 8).run Tryz.prog w = .ok (.pointer (some ⟨b,8,none⟩)) w:=by
 go_simp
def dstH (k:Nat):Nat:=14+k
def DH (s:Nat):Bool:=decide (14≤s)&&decide (s≤79)
def FH (B:Nat) (half old side top seed:Int) (rl ol ml c1 c2 c3:Nat) (a1 a2 a3:Option Addr) (p0 p1 p2 p3 p4 p5 p6 p7 p8 p9:Bool) (k:Nat) (t:Value):Prop:=
 match k with
 |0=>t=(.pointer (some ⟨B,0,none⟩))
 |1=>t=(.int .i64 half)
 |2=>t=(.bool (inR 8 200 half))
 |3=>t=(.bool (!(inR 8 200 half)))
 |4=>t=(.bool p0)
 |5=>t=bif p0 then undef else (.pointer (some ⟨B,1,none⟩))
 |6=>t=bif p0 then undef else (.int .i64 old)
 |7=>t=bif p0 then undef else (.bool (inR 8 400 old))
 |8=>t=bif p0 then undef else (.bool (!(inR 8 400 old)))
 |9=>t=(.bool p1)
 |10=>t=(.bool p1)
 |11=>t=bif p1 then undef else (.pointer (some ⟨B,0,none⟩))
 |12=>t=bif p1 then undef else (.int .i64 half)
 |13=>t=bif p1 then undef else (.int .i64 (half % 2))
 |14=>t=bif p1 then undef else (.bool ((half % 2) != 0))
 |15=>t=(.bool p2)
 |16=>t=(.bool p2)
 |17=>t=bif p2 then undef else (.pointer (some ⟨B,1,none⟩))
 |18=>t=bif p2 then undef else (.int .i64 old)
 |19=>t=bif p2 then undef else (.int .i64 (old % 2))
 |20=>t=bif p2 then undef else (.bool ((old % 2) != 0))
 |21=>t=(.bool p3)
 |22=>t=(.bool p3)
 |23=>t=bif p3 then undef else (.pointer (some ⟨B,2,none⟩))
 |24=>t=bif p3 then undef else (.slice a1 rl c1)
 |25=>t=bif p3 then undef else (.int .i64 (rl:Int))
 |26=>t=bif p3 then undef else (.pointer (some ⟨B,0,none⟩))
 |27=>t=bif p3 then undef else (.int .i64 half)
 |28=>t=bif p3 then undef else (.int .i64 (2*half))
 |29=>t=bif p3 then undef else (.pointer (some ⟨B,1,none⟩))
 |30=>t=bif p3 then undef else (.int .i64 old)
 |31=>t=bif p3 then undef else (.int .i64 ((2*half)+old))
 |32=>t=bif p3 then undef else (.bool ((rl:Int) != ((2*half)+old)))
 |33=>t=(.bool p4)
 |34=>t=(.bool p4)
 |35=>t=bif p4 then undef else (.pointer (some ⟨B,3,none⟩))
 |36=>t=bif p4 then undef else (.int .i64 side)
 |37=>t=bif p4 then undef else (.bool (inR 0 1 side))
 |38=>t=bif p4 then undef else (.bool (!(inR 0 1 side)))
 |39=>t=(.bool p5)
 |40=>t=(.bool p5)
 |41=>t=bif p5 then undef else (.pointer (some ⟨B,4,none⟩))
 |42=>t=bif p5 then undef else (.int .i64 top)
 |43=>t=bif p5 then undef else (.pointer (some ⟨B,0,none⟩))
 |44=>t=bif p5 then undef else (.int .i64 half)
 |45=>t=bif p5 then undef else (.bool (inR 0 half top))
 |46=>t=bif p5 then undef else (.bool (!(inR 0 half top)))
 |47=>t=(.bool p6)
 |48=>t=(.bool p6)
 |49=>t=bif p6 then undef else (.pointer (some ⟨B,5,none⟩))
 |50=>t=bif p6 then undef else (.slice a2 ol c2)
 |51=>t=bif p6 then undef else (.int .i64 (ol:Int))
 |52=>t=bif p6 then undef else (.bool ((ol:Int) != 6))
 |53=>t=(.bool p7)
 |54=>t=(.bool p7)
 |55=>t=bif p7 then undef else (.pointer (some ⟨B,6,none⟩))
 |56=>t=bif p7 then undef else (.slice a3 ml c3)
 |57=>t=bif p7 then undef else (.int .i64 (ml:Int))
 |58=>t=bif p7 then undef else (.bool (decide (40<(ml:Int))))
 |59=>t=(.bool p8)
 |60=>t=(.bool p8)
 |61=>t=bif p8 then undef else (.pointer (some ⟨B,8,none⟩))
 |62=>t=bif p8 then undef else (.int .i64 seed)
 |63=>t=bif p8 then undef else (.bool (inR 0 65535 seed))
 |64=>t=bif p8 then undef else (.bool (!(inR 0 65535 seed)))
 |65=>t=(.bool p9)
 |_=>False
set_option maxHeartbeats 8000000 in
theorem regHead {id:Nat} {ops:Array Oper} {a0:Act} {Q:Exit→Act→World→Prop} {w:World} {B:Nat} {half old side top seed:Int} {rl ol ml c1 c2 c3:Nat} {a1 a2 a3:Option Addr} {p0 p1 p2 p3 p4 p5 p6 p7 p8 p9:Bool} (hn:ops.size=66)
    (h0:HasG ops 0 14 (.fieldAddr 58 (.tmp 1) 0) (none))
    (h1:HasG ops 1 15 (.load 2 (.tmp 14)) (none))
    (h2:HasG ops 2 16 (.call { callee:=.value (.func 56),args:=#[.tmp 15,.const (.int .i64 8),.const (.int .i64 200)],argTypes:=#[2,2,2] }) (none))
    (h3:HasG ops 3 17 (.unOp .not 4 (.tmp 16)) (none))
    (h4:HasG ops 4 18 (.move (.tmp 17)) (none))
    (h5:HasG ops 5 19 (.fieldAddr 58 (.tmp 1) 1) (some (4,false)))
    (h6:HasG ops 6 20 (.load 2 (.tmp 19)) (some (4,false)))
    (h7:HasG ops 7 21 (.call { callee:=.value (.func 56),args:=#[.tmp 20,.const (.int .i64 8),.const (.int .i64 400)],argTypes:=#[2,2,2] }) (some (4,false)))
    (h8:HasG ops 8 22 (.unOp .not 4 (.tmp 21)) (some (4,false)))
    (h9:HasG ops 9 23 (.pick (.tmp 18) (.const (.bool true)) (.tmp 22)) (none))
    (h10:HasG ops 10 24 (.move (.tmp 23)) (none))
    (h11:HasG ops 11 25 (.fieldAddr 58 (.tmp 1) 0) (some (10,false)))
    (h12:HasG ops 12 26 (.load 2 (.tmp 25)) (some (10,false)))
    (h13:HasG ops 13 27 (.binOp .rem 2 (.tmp 26) (.const (.int .i64 2)) 2) (some (10,false)))
    (h14:HasG ops 14 28 (.binOp .neq 2 (.tmp 27) (.const (.int .i64 0)) 2) (some (10,false)))
    (h15:HasG ops 15 29 (.pick (.tmp 24) (.const (.bool true)) (.tmp 28)) (none))
    (h16:HasG ops 16 30 (.move (.tmp 29)) (none))
    (h17:HasG ops 17 31 (.fieldAddr 58 (.tmp 1) 1) (some (16,false)))
    (h18:HasG ops 18 32 (.load 2 (.tmp 31)) (some (16,false)))
    (h19:HasG ops 19 33 (.binOp .rem 2 (.tmp 32) (.const (.int .i64 2)) 2) (some (16,false)))
    (h20:HasG ops 20 34 (.binOp .neq 2 (.tmp 33) (.const (.int .i64 0)) 2) (some (16,false)))
    (h21:HasG ops 21 35 (.pick (.tmp 30) (.const (.bool true)) (.tmp 34)) (none))
    (h22:HasG ops 22 36 (.move (.tmp 35)) (none))
    (h23:HasG ops 23 37 (.fieldAddr 58 (.tmp 1) 2) (some (22,false)))
    (h24:HasG ops 24 38 (.load 48 (.tmp 37)) (some (22,false)))
    (h25:HasG ops 25 39 (.call { callee:=.builtin .len,args:=#[.tmp 38],argTypes:=#[48] }) (some (22,false)))
    (h26:HasG ops 26 40 (.fieldAddr 58 (.tmp 1) 0) (some (22,false)))
    (h27:HasG ops 27 41 (.load 2 (.tmp 40)) (some (22,false)))
    (h28:HasG ops 28 42 (.binOp .mul 2 (.const (.int .i64 2)) (.tmp 41) 2) (some (22,false)))
    (h29:HasG ops 29 43 (.fieldAddr 58 (.tmp 1) 1) (some (22,false)))
    (h30:HasG ops 30 44 (.load 2 (.tmp 43)) (some (22,false)))
    (h31:HasG ops 31 45 (.binOp .add 2 (.tmp 42) (.tmp 44) 2) (some (22,false)))
    (h32:HasG ops 32 46 (.binOp .neq 2 (.tmp 39) (.tmp 45) 2) (some (22,false)))
    (h33:HasG ops 33 47 (.pick (.tmp 36) (.const (.bool true)) (.tmp 46)) (none))
    (h34:HasG ops 34 48 (.move (.tmp 47)) (none))
    (h35:HasG ops 35 49 (.fieldAddr 58 (.tmp 1) 3) (some (34,false)))
    (h36:HasG ops 36 50 (.load 2 (.tmp 49)) (some (34,false)))
    (h37:HasG ops 37 51 (.call { callee:=.value (.func 56),args:=#[.tmp 50,.const (.int .i64 0),.const (.int .i64 1)],argTypes:=#[2,2,2] }) (some (34,false)))
    (h38:HasG ops 38 52 (.unOp .not 4 (.tmp 51)) (some (34,false)))
    (h39:HasG ops 39 53 (.pick (.tmp 48) (.const (.bool true)) (.tmp 52)) (none))
    (h40:HasG ops 40 54 (.move (.tmp 53)) (none))
    (h41:HasG ops 41 55 (.fieldAddr 58 (.tmp 1) 4) (some (40,false)))
    (h42:HasG ops 42 56 (.load 2 (.tmp 55)) (some (40,false)))
    (h43:HasG ops 43 57 (.fieldAddr 58 (.tmp 1) 0) (some (40,false)))
    (h44:HasG ops 44 58 (.load 2 (.tmp 57)) (some (40,false)))
    (h45:HasG ops 45 59 (.call { callee:=.value (.func 56),args:=#[.tmp 56,.const (.int .i64 0),.tmp 58],argTypes:=#[2,2,2] }) (some (40,false)))
    (h46:HasG ops 46 60 (.unOp .not 4 (.tmp 59)) (some (40,false)))
    (h47:HasG ops 47 61 (.pick (.tmp 54) (.const (.bool true)) (.tmp 60)) (none))
    (h48:HasG ops 48 62 (.move (.tmp 61)) (none))
    (h49:HasG ops 49 63 (.fieldAddr 58 (.tmp 1) 5) (some (48,false)))
    (h50:HasG ops 50 64 (.load 48 (.tmp 63)) (some (48,false)))
    (h51:HasG ops 51 65 (.call { callee:=.builtin .len,args:=#[.tmp 64],argTypes:=#[48] }) (some (48,false)))
    (h52:HasG ops 52 66 (.binOp .neq 3 (.tmp 65) (.const (.int .i64 6)) 3) (some (48,false)))
    (h53:HasG ops 53 67 (.pick (.tmp 62) (.const (.bool true)) (.tmp 66)) (none))
    (h54:HasG ops 54 68 (.move (.tmp 67)) (none))
    (h55:HasG ops 55 69 (.fieldAddr 58 (.tmp 1) 6) (some (54,false)))
    (h56:HasG ops 56 70 (.load 48 (.tmp 69)) (some (54,false)))
    (h57:HasG ops 57 71 (.call { callee:=.builtin .len,args:=#[.tmp 70],argTypes:=#[48] }) (some (54,false)))
    (h58:HasG ops 58 72 (.binOp .gtr 3 (.tmp 71) (.const (.int .i64 40)) 3) (some (54,false)))
    (h59:HasG ops 59 73 (.pick (.tmp 68) (.const (.bool true)) (.tmp 72)) (none))
    (h60:HasG ops 60 74 (.move (.tmp 73)) (none))
    (h61:HasG ops 61 75 (.fieldAddr 58 (.tmp 1) 8) (some (60,false)))
    (h62:HasG ops 62 76 (.load 2 (.tmp 75)) (some (60,false)))
    (h63:HasG ops 63 77 (.call { callee:=.value (.func 56),args:=#[.tmp 76,.const (.int .i64 0),.const (.int .i64 65535)],argTypes:=#[2,2,2] }) (some (60,false)))
    (h64:HasG ops 64 78 (.unOp .not 4 (.tmp 77)) (some (60,false)))
    (h65:HasG ops 65 79 (.pick (.tmp 74) (.const (.bool true)) (.tmp 78)) (none))
    (sz:79<a0.tmps.size) (e1:a0.tmps.getD 1 undef = .pointer (some ⟨B,0,none⟩))
    (z0:w.cell? ⟨B,0,none⟩=some (.int .i64 half)) (z1:w.cell? ⟨B,1,none⟩=some (.int .i64 old)) (z2:w.cell? ⟨B,2,none⟩=some (.slice a1 rl c1)) (z3:w.cell? ⟨B,3,none⟩=some (.int .i64 side)) (z4:w.cell? ⟨B,4,none⟩=some (.int .i64 top)) (z5:w.cell? ⟨B,5,none⟩=some (.slice a2 ol c2)) (z6:w.cell? ⟨B,6,none⟩=some (.slice a3 ml c3)) (z8:w.cell? ⟨B,8,none⟩=some (.int .i64 seed))
    (q0:p0 = !inR 8 200 half) (q1:p1=(p0 || !inR 8 400 old)) (q2:p2=(p1 || (half % 2 != 0))) (q3:p3=(p2 || (old % 2 != 0))) (q4:p4=(p3 || ((rl:Int) != 2*half+old))) (q5:p5=(p4 || !inR 0 1 side)) (q6:p6=(p5 || !inR 0 half top)) (q7:p7=(p6 || ((ol:Int) != 6))) (q8:p8=(p7 || decide (40<(ml:Int)))) (q9:p9=(p8 || !inR 0 65535 seed))
    (fin:∀u,u 79 = .bool p9→Q .normal (ovr DH a0 u) w) :
    (Code.region id ops false).wp Tryz.prog Q a0 w:=by
 have bnd:p1=false→8≤half∧half≤200∧8≤old∧old≤400:=fun h=>by
  rw[q1,q0]at h
  simp[inR]at h
  omega
 have chain2:p2=false→p1=false:=fun h=>by rw[q2]at h;simp at h;exact h.1
 have chain3:p3=false→p1=false:=fun h=>by rw[q3]at h;simp at h;exact chain2 h.1
 have chain4:p4=false→p1=false:=fun h=>by rw[q4]at h;simp at h;exact chain3 h.1
 have chain5:p5=false→p1=false:=fun h=>by rw[q5]at h;simp at h;exact chain4 h.1
 have chain6:p6=false→p1=false:=fun h=>by rw[q6]at h;simp at h;exact chain5 h.1
 have chain7:p7=false→p1=false:=fun h=>by rw[q7]at h;simp at h;exact chain6 h.1
 have chain8:p8=false→p1=false:=fun h=>by rw[q8]at h;simp at h;exact chain7 h.1
 refine wp_region_seq DH (fun W W'=>W'=W) (fun a b c h k=>k.trans h) rfl 66 hn dstH (fun k hk j hj e=>by unfold dstH at e;omega) (fun k t _=>FH B half old side top seed rl ol ml c1 c2 c3 a1 a2 a3 p0 p1 p2 p3 p4 p5 p6 p7 p8 p9 k t) (fun _ _ _ _ _ h=>h) ?_ ?_
 ·intro k o u W hk ho hR hF
  obtain rfl:W=w:=hR
  have ev:∀s,DH s=true→s<80→(ovr DH a0 u).eval (.tmp s)=u s:=fun s h1 h2=>eval_in h1 (by omega)
  have x1:=(eval_out (D:=DH) (a0:=a0) (u:=u) (s:=1) rfl (by omega)).trans e1
  have hF:∀j,j<k→FH B half old side top seed rl ol ml c1 c2 c3 a1 a2 a3 p0 p1 p2 p3 p4 p5 p6 p7 p8 p9 j (u (14+j)):=hF
  rcases (show k=0∨k=1∨k=2∨k=3∨k=4∨k=5∨k=6∨k=7∨k=8∨k=9∨k=10∨k=11∨k=12∨k=13∨k=14∨k=15∨k=16∨k=17∨k=18∨k=19∨k=20∨k=21∨k=22∨k=23∨k=24∨k=25∨k=26∨k=27∨k=28∨k=29∨k=30∨k=31∨k=32∨k=33∨k=34∨k=35∨k=36∨k=37∨k=38∨k=39∨k=40∨k=41∨k=42∨k=43∨k=44∨k=45∨k=46∨k=47∨k=48∨k=49∨k=50∨k=51∨k=52∨k=53∨k=54∨k=55∨k=56∨k=57∨k=58∨k=59∨k=60∨k=61∨k=62∨k=63∨k=64∨k=65 by omega) with rfl|rfl|rfl|rfl|rfl|rfl|rfl|rfl|rfl|rfl|rfl|rfl|rfl|rfl|rfl|rfl|rfl|rfl|rfl|rfl|rfl|rfl|rfl|rfl|rfl|rfl|rfl|rfl|rfl|rfl|rfl|rfl|rfl|rfl|rfl|rfl|rfl|rfl|rfl|rfl|rfl|rfl|rfl|rfl|rfl|rfl|rfl|rfl|rfl|rfl|rfl|rfl|rfl|rfl|rfl|rfl|rfl|rfl|rfl|rfl|rfl|rfl|rfl|rfl|rfl|rfl
  ·obtain⟨hd,op,hgd⟩:=hasG_at h0 ho
   exact .inl ⟨wanted_none hgd,wp_value (v:=.pointer (some ⟨B,0,none⟩)) (w':=W) (by simp only[execOp,op,x1];simp[ri9_f0,go_sem,Result.andThen]) ⟨_,put_in hd rfl u _,rfl,by rfl⟩⟩
  ·obtain⟨hd,op,hgd⟩:=hasG_at h1 ho
   have y0:=(ev 14 rfl (by omega)).trans (hF 0 (by omega))
   exact .inl ⟨wanted_none hgd,wp_value (v:=.int .i64 half) (w':=W) (by simp only[execOp,op,y0];simp[z0,go_sem,Result.andThen]) ⟨_,put_in hd rfl u _,rfl,by rfl⟩⟩
  ·obtain⟨hd,op,hgd⟩:=hasG_at h2 ho
   have y0:=(ev 15 rfl (by omega)).trans (hF 1 (by omega))
   exact .inl ⟨wanted_none hgd,wp_call (f:=56) (args:=#[.int .i64 half,.int .i64 8,.int .i64 200]) (by simp only[execOp,op];go_simp;exact (getD_at _ _).symm.trans y0) ((heads.l1In_any half 8 200 W).mono (by rintro e w' ⟨rfl,rfl⟩;exact⟨_,rfl,_,put_in hd rfl u _,rfl,by rfl⟩))⟩
  ·obtain⟨hd,op,hgd⟩:=hasG_at h3 ho
   have y0:=(ev 16 rfl (by omega)).trans (hF 2 (by omega))
   exact .inl ⟨wanted_none hgd,wp_value (v:=.bool (!(inR 8 200 half))) (w':=W) (by simp only[execOp,op,y0];simp[go_sem,Result.andThen]) ⟨_,put_in hd rfl u _,rfl,by rfl⟩⟩
  ·obtain⟨hd,op,hgd⟩:=hasG_at h4 ho
   have y0:=(ev 17 rfl (by omega)).trans (hF 3 (by omega))
   rw[←q0]at y0
   exact .inl ⟨wanted_none hgd,wp_value (v:=.bool p0) (w':=W) (by simp only[execOp,op,y0];simp[go_sem,Result.andThen]) ⟨_,put_in hd rfl u _,rfl,by rfl⟩⟩
  ·obtain⟨hd,op,hgd⟩:=hasG_at h5 ho
   obtain⟨og,hog,hogd⟩:=hasG_ex h4
   have WG:=fun (hgd:o.guard=some (4,false))=>wanted_some (D:=DH) (a0:=a0) (u:=u) hgd hog hogd rfl (by omega) (hF 4 (by omega))
   cases hp:p0
   ·skip
    exact .inl ⟨(WG hgd).trans (by rw[hp];rfl),wp_value (v:=.pointer (some ⟨B,1,none⟩)) (w':=W) (by simp only[execOp,op,x1];simp[ri9_f1,go_sem,Result.andThen]) ⟨_,put_in hd rfl u _,rfl,by rfl⟩⟩
   ·exact .inr ⟨(WG hgd).trans (by rw[hp];rfl),hd,rfl,by rfl⟩
  ·obtain⟨hd,op,hgd⟩:=hasG_at h6 ho
   have y0:=(ev 19 rfl (by omega)).trans (hF 5 (by omega))
   obtain⟨og,hog,hogd⟩:=hasG_ex h4
   have WG:=fun (hgd:o.guard=some (4,false))=>wanted_some (D:=DH) (a0:=a0) (u:=u) hgd hog hogd rfl (by omega) (hF 4 (by omega))
   cases hp:p0
   ·skip
    rw[hp,cond_false]at y0
    exact .inl ⟨(WG hgd).trans (by rw[hp];rfl),wp_value (v:=.int .i64 old) (w':=W) (by simp only[execOp,op,y0];simp[z1,go_sem,Result.andThen]) ⟨_,put_in hd rfl u _,rfl,by rfl⟩⟩
   ·exact .inr ⟨(WG hgd).trans (by rw[hp];rfl),hd,rfl,by rfl⟩
  ·obtain⟨hd,op,hgd⟩:=hasG_at h7 ho
   have y0:=(ev 20 rfl (by omega)).trans (hF 6 (by omega))
   obtain⟨og,hog,hogd⟩:=hasG_ex h4
   have WG:=fun (hgd:o.guard=some (4,false))=>wanted_some (D:=DH) (a0:=a0) (u:=u) hgd hog hogd rfl (by omega) (hF 4 (by omega))
   cases hp:p0
   ·skip
    rw[hp,cond_false]at y0
    exact .inl ⟨(WG hgd).trans (by rw[hp];rfl),wp_call (f:=56) (args:=#[.int .i64 old,.int .i64 8,.int .i64 400]) (by simp only[execOp,op];go_simp;exact (getD_at _ _).symm.trans y0) ((heads.l1In_any old 8 400 W).mono (by rintro e w' ⟨rfl,rfl⟩;exact⟨_,rfl,_,put_in hd rfl u _,rfl,by rfl⟩))⟩
   ·exact .inr ⟨(WG hgd).trans (by rw[hp];rfl),hd,rfl,by rfl⟩
  ·obtain⟨hd,op,hgd⟩:=hasG_at h8 ho
   have y0:=(ev 21 rfl (by omega)).trans (hF 7 (by omega))
   obtain⟨og,hog,hogd⟩:=hasG_ex h4
   have WG:=fun (hgd:o.guard=some (4,false))=>wanted_some (D:=DH) (a0:=a0) (u:=u) hgd hog hogd rfl (by omega) (hF 4 (by omega))
   cases hp:p0
   ·skip
    rw[hp,cond_false]at y0
    exact .inl ⟨(WG hgd).trans (by rw[hp];rfl),wp_value (v:=.bool (!(inR 8 400 old))) (w':=W) (by simp only[execOp,op,y0];simp[go_sem,Result.andThen]) ⟨_,put_in hd rfl u _,rfl,by rfl⟩⟩
   ·exact .inr ⟨(WG hgd).trans (by rw[hp];rfl),hd,rfl,by rfl⟩
  ·obtain⟨hd,op,hgd⟩:=hasG_at h9 ho
   have y0:=(ev 18 rfl (by omega)).trans (hF 4 (by omega))
   have y1:=(ev 22 rfl (by omega)).trans (hF 8 (by omega))
   exact .inl ⟨wanted_none hgd,wp_value (v:=.bool p1) (w':=W) (by rw[q1];cases hh:p0<;>rw[hh]at y0 y1<;>simp only[execOp,op,y0,y1]<;>simp[go_sem,Result.andThen]) ⟨_,put_in hd rfl u _,rfl,rfl⟩⟩
  ·obtain⟨hd,op,hgd⟩:=hasG_at h10 ho
   have y0:=(ev 23 rfl (by omega)).trans (hF 9 (by omega))
   exact .inl ⟨wanted_none hgd,wp_value (v:=.bool p1) (w':=W) (by simp only[execOp,op,y0];simp[go_sem,Result.andThen]) ⟨_,put_in hd rfl u _,rfl,by rfl⟩⟩
  ·obtain⟨hd,op,hgd⟩:=hasG_at h11 ho
   obtain⟨og,hog,hogd⟩:=hasG_ex h10
   have WG:=fun (hgd:o.guard=some (10,false))=>wanted_some (D:=DH) (a0:=a0) (u:=u) hgd hog hogd rfl (by omega) (hF 10 (by omega))
   cases hp:p1
   ·skip
    exact .inl ⟨(WG hgd).trans (by rw[hp];rfl),wp_value (v:=.pointer (some ⟨B,0,none⟩)) (w':=W) (by simp only[execOp,op,x1];simp[ri9_f0,go_sem,Result.andThen]) ⟨_,put_in hd rfl u _,rfl,by rfl⟩⟩
   ·exact .inr ⟨(WG hgd).trans (by rw[hp];rfl),hd,rfl,by rfl⟩
  ·obtain⟨hd,op,hgd⟩:=hasG_at h12 ho
   have y0:=(ev 25 rfl (by omega)).trans (hF 11 (by omega))
   obtain⟨og,hog,hogd⟩:=hasG_ex h10
   have WG:=fun (hgd:o.guard=some (10,false))=>wanted_some (D:=DH) (a0:=a0) (u:=u) hgd hog hogd rfl (by omega) (hF 10 (by omega))
   cases hp:p1
   ·skip
    rw[hp,cond_false]at y0
    exact .inl ⟨(WG hgd).trans (by rw[hp];rfl),wp_value (v:=.int .i64 half) (w':=W) (by simp only[execOp,op,y0];simp[z0,go_sem,Result.andThen]) ⟨_,put_in hd rfl u _,rfl,by rfl⟩⟩
   ·exact .inr ⟨(WG hgd).trans (by rw[hp];rfl),hd,rfl,by rfl⟩
  ·obtain⟨hd,op,hgd⟩:=hasG_at h13 ho
   have y0:=(ev 26 rfl (by omega)).trans (hF 12 (by omega))
   obtain⟨og,hog,hogd⟩:=hasG_ex h10
   have WG:=fun (hgd:o.guard=some (10,false))=>wanted_some (D:=DH) (a0:=a0) (u:=u) hgd hog hogd rfl (by omega) (hF 10 (by omega))
   cases hp:p1
   ·have hp0:p1=false:=by exact hp
    rw[hp,cond_false]at y0
    exact .inl ⟨(WG hgd).trans (by rw[hp];rfl),wp_value (v:=.int .i64 (half % 2)) (w':=W) (by have bb:=bnd hp0;simp only[execOp,op,y0];simp[go_sem,Result.andThen];exact Int.tmod_eq_emod_of_nonneg (by omega)) ⟨_,put_in hd rfl u _,rfl,by rfl⟩⟩
   ·exact .inr ⟨(WG hgd).trans (by rw[hp];rfl),hd,rfl,by rfl⟩
  ·obtain⟨hd,op,hgd⟩:=hasG_at h14 ho
   have y0:=(ev 27 rfl (by omega)).trans (hF 13 (by omega))
   obtain⟨og,hog,hogd⟩:=hasG_ex h10
   have WG:=fun (hgd:o.guard=some (10,false))=>wanted_some (D:=DH) (a0:=a0) (u:=u) hgd hog hogd rfl (by omega) (hF 10 (by omega))
   cases hp:p1
   ·have hp0:p1=false:=by exact hp
    rw[hp,cond_false]at y0
    exact .inl ⟨(WG hgd).trans (by rw[hp];rfl),wp_value (v:=.bool ((half % 2) != 0)) (w':=W) (by have bb:=bnd hp0;simp only[execOp,op,y0];simp[go_sem,Result.andThen]) ⟨_,put_in hd rfl u _,rfl,by rfl⟩⟩
   ·exact .inr ⟨(WG hgd).trans (by rw[hp];rfl),hd,rfl,by rfl⟩
  ·obtain⟨hd,op,hgd⟩:=hasG_at h15 ho
   have y0:=(ev 24 rfl (by omega)).trans (hF 10 (by omega))
   have y1:=(ev 28 rfl (by omega)).trans (hF 14 (by omega))
   exact .inl ⟨wanted_none hgd,wp_value (v:=.bool p2) (w':=W) (by rw[q2];cases hh:p1<;>rw[hh]at y0 y1<;>simp only[execOp,op,y0,y1]<;>simp[go_sem,Result.andThen]) ⟨_,put_in hd rfl u _,rfl,rfl⟩⟩
  ·obtain⟨hd,op,hgd⟩:=hasG_at h16 ho
   have y0:=(ev 29 rfl (by omega)).trans (hF 15 (by omega))
   exact .inl ⟨wanted_none hgd,wp_value (v:=.bool p2) (w':=W) (by simp only[execOp,op,y0];simp[go_sem,Result.andThen]) ⟨_,put_in hd rfl u _,rfl,by rfl⟩⟩
  ·obtain⟨hd,op,hgd⟩:=hasG_at h17 ho
   obtain⟨og,hog,hogd⟩:=hasG_ex h16
   have WG:=fun (hgd:o.guard=some (16,false))=>wanted_some (D:=DH) (a0:=a0) (u:=u) hgd hog hogd rfl (by omega) (hF 16 (by omega))
   cases hp:p2
   ·skip
    exact .inl ⟨(WG hgd).trans (by rw[hp];rfl),wp_value (v:=.pointer (some ⟨B,1,none⟩)) (w':=W) (by simp only[execOp,op,x1];simp[ri9_f1,go_sem,Result.andThen]) ⟨_,put_in hd rfl u _,rfl,by rfl⟩⟩
   ·exact .inr ⟨(WG hgd).trans (by rw[hp];rfl),hd,rfl,by rfl⟩
  ·obtain⟨hd,op,hgd⟩:=hasG_at h18 ho
   have y0:=(ev 31 rfl (by omega)).trans (hF 17 (by omega))
   obtain⟨og,hog,hogd⟩:=hasG_ex h16
   have WG:=fun (hgd:o.guard=some (16,false))=>wanted_some (D:=DH) (a0:=a0) (u:=u) hgd hog hogd rfl (by omega) (hF 16 (by omega))
   cases hp:p2
   ·skip
    rw[hp,cond_false]at y0
    exact .inl ⟨(WG hgd).trans (by rw[hp];rfl),wp_value (v:=.int .i64 old) (w':=W) (by simp only[execOp,op,y0];simp[z1,go_sem,Result.andThen]) ⟨_,put_in hd rfl u _,rfl,by rfl⟩⟩
   ·exact .inr ⟨(WG hgd).trans (by rw[hp];rfl),hd,rfl,by rfl⟩
  ·obtain⟨hd,op,hgd⟩:=hasG_at h19 ho
   have y0:=(ev 32 rfl (by omega)).trans (hF 18 (by omega))
   obtain⟨og,hog,hogd⟩:=hasG_ex h16
   have WG:=fun (hgd:o.guard=some (16,false))=>wanted_some (D:=DH) (a0:=a0) (u:=u) hgd hog hogd rfl (by omega) (hF 16 (by omega))
   cases hp:p2
   ·have hp0:p1=false:=by exact chain2 hp
    rw[hp,cond_false]at y0
    exact .inl ⟨(WG hgd).trans (by rw[hp];rfl),wp_value (v:=.int .i64 (old % 2)) (w':=W) (by have bb:=bnd hp0;simp only[execOp,op,y0];simp[go_sem,Result.andThen];exact Int.tmod_eq_emod_of_nonneg (by omega)) ⟨_,put_in hd rfl u _,rfl,by rfl⟩⟩
   ·exact .inr ⟨(WG hgd).trans (by rw[hp];rfl),hd,rfl,by rfl⟩
  ·obtain⟨hd,op,hgd⟩:=hasG_at h20 ho
   have y0:=(ev 33 rfl (by omega)).trans (hF 19 (by omega))
   obtain⟨og,hog,hogd⟩:=hasG_ex h16
   have WG:=fun (hgd:o.guard=some (16,false))=>wanted_some (D:=DH) (a0:=a0) (u:=u) hgd hog hogd rfl (by omega) (hF 16 (by omega))
   cases hp:p2
   ·have hp0:p1=false:=by exact chain2 hp
    rw[hp,cond_false]at y0
    exact .inl ⟨(WG hgd).trans (by rw[hp];rfl),wp_value (v:=.bool ((old % 2) != 0)) (w':=W) (by have bb:=bnd hp0;simp only[execOp,op,y0];simp[go_sem,Result.andThen]) ⟨_,put_in hd rfl u _,rfl,by rfl⟩⟩
   ·exact .inr ⟨(WG hgd).trans (by rw[hp];rfl),hd,rfl,by rfl⟩
  ·obtain⟨hd,op,hgd⟩:=hasG_at h21 ho
   have y0:=(ev 30 rfl (by omega)).trans (hF 16 (by omega))
   have y1:=(ev 34 rfl (by omega)).trans (hF 20 (by omega))
   exact .inl ⟨wanted_none hgd,wp_value (v:=.bool p3) (w':=W) (by rw[q3];cases hh:p2<;>rw[hh]at y0 y1<;>simp only[execOp,op,y0,y1]<;>simp[go_sem,Result.andThen]) ⟨_,put_in hd rfl u _,rfl,rfl⟩⟩
  ·obtain⟨hd,op,hgd⟩:=hasG_at h22 ho
   have y0:=(ev 35 rfl (by omega)).trans (hF 21 (by omega))
   exact .inl ⟨wanted_none hgd,wp_value (v:=.bool p3) (w':=W) (by simp only[execOp,op,y0];simp[go_sem,Result.andThen]) ⟨_,put_in hd rfl u _,rfl,by rfl⟩⟩
  ·obtain⟨hd,op,hgd⟩:=hasG_at h23 ho
   obtain⟨og,hog,hogd⟩:=hasG_ex h22
   have WG:=fun (hgd:o.guard=some (22,false))=>wanted_some (D:=DH) (a0:=a0) (u:=u) hgd hog hogd rfl (by omega) (hF 22 (by omega))
   cases hp:p3
   ·skip
    exact .inl ⟨(WG hgd).trans (by rw[hp];rfl),wp_value (v:=.pointer (some ⟨B,2,none⟩)) (w':=W) (by simp only[execOp,op,x1];simp[ri9_f2,go_sem,Result.andThen]) ⟨_,put_in hd rfl u _,rfl,by rfl⟩⟩
   ·exact .inr ⟨(WG hgd).trans (by rw[hp];rfl),hd,rfl,by rfl⟩
  ·obtain⟨hd,op,hgd⟩:=hasG_at h24 ho
   have y0:=(ev 37 rfl (by omega)).trans (hF 23 (by omega))
   obtain⟨og,hog,hogd⟩:=hasG_ex h22
   have WG:=fun (hgd:o.guard=some (22,false))=>wanted_some (D:=DH) (a0:=a0) (u:=u) hgd hog hogd rfl (by omega) (hF 22 (by omega))
   cases hp:p3
   ·skip
    rw[hp,cond_false]at y0
    exact .inl ⟨(WG hgd).trans (by rw[hp];rfl),wp_value (v:=.slice a1 rl c1) (w':=W) (by simp only[execOp,op,y0];simp[z2,go_sem,Result.andThen]) ⟨_,put_in hd rfl u _,rfl,by rfl⟩⟩
   ·exact .inr ⟨(WG hgd).trans (by rw[hp];rfl),hd,rfl,by rfl⟩
  ·obtain⟨hd,op,hgd⟩:=hasG_at h25 ho
   have y0:=(ev 38 rfl (by omega)).trans (hF 24 (by omega))
   obtain⟨og,hog,hogd⟩:=hasG_ex h22
   have WG:=fun (hgd:o.guard=some (22,false))=>wanted_some (D:=DH) (a0:=a0) (u:=u) hgd hog hogd rfl (by omega) (hF 22 (by omega))
   cases hp:p3
   ·skip
    rw[hp,cond_false]at y0
    exact .inl ⟨(WG hgd).trans (by rw[hp];rfl),wp_value (v:=.int .i64 (rl:Int)) (w':=W) (by simp only[execOp,op,y0];simp[go_sem,Result.andThen];rw[(getD_at _ _).symm.trans y0];go_simp) ⟨_,put_in hd rfl u _,rfl,by rfl⟩⟩
   ·exact .inr ⟨(WG hgd).trans (by rw[hp];rfl),hd,rfl,by rfl⟩
  ·obtain⟨hd,op,hgd⟩:=hasG_at h26 ho
   obtain⟨og,hog,hogd⟩:=hasG_ex h22
   have WG:=fun (hgd:o.guard=some (22,false))=>wanted_some (D:=DH) (a0:=a0) (u:=u) hgd hog hogd rfl (by omega) (hF 22 (by omega))
   cases hp:p3
   ·skip
    exact .inl ⟨(WG hgd).trans (by rw[hp];rfl),wp_value (v:=.pointer (some ⟨B,0,none⟩)) (w':=W) (by simp only[execOp,op,x1];simp[ri9_f0,go_sem,Result.andThen]) ⟨_,put_in hd rfl u _,rfl,by rfl⟩⟩
   ·exact .inr ⟨(WG hgd).trans (by rw[hp];rfl),hd,rfl,by rfl⟩
  ·obtain⟨hd,op,hgd⟩:=hasG_at h27 ho
   have y0:=(ev 40 rfl (by omega)).trans (hF 26 (by omega))
   obtain⟨og,hog,hogd⟩:=hasG_ex h22
   have WG:=fun (hgd:o.guard=some (22,false))=>wanted_some (D:=DH) (a0:=a0) (u:=u) hgd hog hogd rfl (by omega) (hF 22 (by omega))
   cases hp:p3
   ·skip
    rw[hp,cond_false]at y0
    exact .inl ⟨(WG hgd).trans (by rw[hp];rfl),wp_value (v:=.int .i64 half) (w':=W) (by simp only[execOp,op,y0];simp[z0,go_sem,Result.andThen]) ⟨_,put_in hd rfl u _,rfl,by rfl⟩⟩
   ·exact .inr ⟨(WG hgd).trans (by rw[hp];rfl),hd,rfl,by rfl⟩
  ·obtain⟨hd,op,hgd⟩:=hasG_at h28 ho
   have y0:=(ev 41 rfl (by omega)).trans (hF 27 (by omega))
   obtain⟨og,hog,hogd⟩:=hasG_ex h22
   have WG:=fun (hgd:o.guard=some (22,false))=>wanted_some (D:=DH) (a0:=a0) (u:=u) hgd hog hogd rfl (by omega) (hF 22 (by omega))
   cases hp:p3
   ·have hp0:p1=false:=by exact chain3 hp
    rw[hp,cond_false]at y0
    exact .inl ⟨(WG hgd).trans (by rw[hp];rfl),wp_value (v:=.int .i64 (2*half)) (w':=W) (by have bb:=bnd hp0;simp only[execOp,op,y0];simp[go_sem,Result.andThen];rw[IntKind.wrap_i64];omega) ⟨_,put_in hd rfl u _,rfl,by rfl⟩⟩
   ·exact .inr ⟨(WG hgd).trans (by rw[hp];rfl),hd,rfl,by rfl⟩
  ·obtain⟨hd,op,hgd⟩:=hasG_at h29 ho
   obtain⟨og,hog,hogd⟩:=hasG_ex h22
   have WG:=fun (hgd:o.guard=some (22,false))=>wanted_some (D:=DH) (a0:=a0) (u:=u) hgd hog hogd rfl (by omega) (hF 22 (by omega))
   cases hp:p3
   ·skip
    exact .inl ⟨(WG hgd).trans (by rw[hp];rfl),wp_value (v:=.pointer (some ⟨B,1,none⟩)) (w':=W) (by simp only[execOp,op,x1];simp[ri9_f1,go_sem,Result.andThen]) ⟨_,put_in hd rfl u _,rfl,by rfl⟩⟩
   ·exact .inr ⟨(WG hgd).trans (by rw[hp];rfl),hd,rfl,by rfl⟩
  ·obtain⟨hd,op,hgd⟩:=hasG_at h30 ho
   have y0:=(ev 43 rfl (by omega)).trans (hF 29 (by omega))
   obtain⟨og,hog,hogd⟩:=hasG_ex h22
   have WG:=fun (hgd:o.guard=some (22,false))=>wanted_some (D:=DH) (a0:=a0) (u:=u) hgd hog hogd rfl (by omega) (hF 22 (by omega))
   cases hp:p3
   ·skip
    rw[hp,cond_false]at y0
    exact .inl ⟨(WG hgd).trans (by rw[hp];rfl),wp_value (v:=.int .i64 old) (w':=W) (by simp only[execOp,op,y0];simp[z1,go_sem,Result.andThen]) ⟨_,put_in hd rfl u _,rfl,by rfl⟩⟩
   ·exact .inr ⟨(WG hgd).trans (by rw[hp];rfl),hd,rfl,by rfl⟩
  ·obtain⟨hd,op,hgd⟩:=hasG_at h31 ho
   have y0:=(ev 42 rfl (by omega)).trans (hF 28 (by omega))
   have y1:=(ev 44 rfl (by omega)).trans (hF 30 (by omega))
   obtain⟨og,hog,hogd⟩:=hasG_ex h22
   have WG:=fun (hgd:o.guard=some (22,false))=>wanted_some (D:=DH) (a0:=a0) (u:=u) hgd hog hogd rfl (by omega) (hF 22 (by omega))
   cases hp:p3
   ·have hp0:p1=false:=by exact chain3 hp
    rw[hp,cond_false]at y0
    rw[hp,cond_false]at y1
    exact .inl ⟨(WG hgd).trans (by rw[hp];rfl),wp_value (v:=.int .i64 ((2*half)+old)) (w':=W) (by have bb:=bnd hp0;simp only[execOp,op,y0,y1];simp[go_sem,Result.andThen];rw[IntKind.wrap_i64];omega) ⟨_,put_in hd rfl u _,rfl,by rfl⟩⟩
   ·exact .inr ⟨(WG hgd).trans (by rw[hp];rfl),hd,rfl,by rfl⟩
  ·obtain⟨hd,op,hgd⟩:=hasG_at h32 ho
   have y0:=(ev 39 rfl (by omega)).trans (hF 25 (by omega))
   have y1:=(ev 45 rfl (by omega)).trans (hF 31 (by omega))
   obtain⟨og,hog,hogd⟩:=hasG_ex h22
   have WG:=fun (hgd:o.guard=some (22,false))=>wanted_some (D:=DH) (a0:=a0) (u:=u) hgd hog hogd rfl (by omega) (hF 22 (by omega))
   cases hp:p3
   ·have hp0:p1=false:=by exact chain3 hp
    rw[hp,cond_false]at y0
    rw[hp,cond_false]at y1
    exact .inl ⟨(WG hgd).trans (by rw[hp];rfl),wp_value (v:=.bool ((rl:Int) != ((2*half)+old))) (w':=W) (by have bb:=bnd hp0;simp only[execOp,op,y0,y1];simp[go_sem,Result.andThen]) ⟨_,put_in hd rfl u _,rfl,by rfl⟩⟩
   ·exact .inr ⟨(WG hgd).trans (by rw[hp];rfl),hd,rfl,by rfl⟩
  ·obtain⟨hd,op,hgd⟩:=hasG_at h33 ho
   have y0:=(ev 36 rfl (by omega)).trans (hF 22 (by omega))
   have y1:=(ev 46 rfl (by omega)).trans (hF 32 (by omega))
   exact .inl ⟨wanted_none hgd,wp_value (v:=.bool p4) (w':=W) (by rw[q4];cases hh:p3<;>rw[hh]at y0 y1<;>simp only[execOp,op,y0,y1]<;>simp[go_sem,Result.andThen]) ⟨_,put_in hd rfl u _,rfl,rfl⟩⟩
  ·obtain⟨hd,op,hgd⟩:=hasG_at h34 ho
   have y0:=(ev 47 rfl (by omega)).trans (hF 33 (by omega))
   exact .inl ⟨wanted_none hgd,wp_value (v:=.bool p4) (w':=W) (by simp only[execOp,op,y0];simp[go_sem,Result.andThen]) ⟨_,put_in hd rfl u _,rfl,by rfl⟩⟩
  ·obtain⟨hd,op,hgd⟩:=hasG_at h35 ho
   obtain⟨og,hog,hogd⟩:=hasG_ex h34
   have WG:=fun (hgd:o.guard=some (34,false))=>wanted_some (D:=DH) (a0:=a0) (u:=u) hgd hog hogd rfl (by omega) (hF 34 (by omega))
   cases hp:p4
   ·skip
    exact .inl ⟨(WG hgd).trans (by rw[hp];rfl),wp_value (v:=.pointer (some ⟨B,3,none⟩)) (w':=W) (by simp only[execOp,op,x1];simp[ri9_f3,go_sem,Result.andThen]) ⟨_,put_in hd rfl u _,rfl,by rfl⟩⟩
   ·exact .inr ⟨(WG hgd).trans (by rw[hp];rfl),hd,rfl,by rfl⟩
  ·obtain⟨hd,op,hgd⟩:=hasG_at h36 ho
   have y0:=(ev 49 rfl (by omega)).trans (hF 35 (by omega))
   obtain⟨og,hog,hogd⟩:=hasG_ex h34
   have WG:=fun (hgd:o.guard=some (34,false))=>wanted_some (D:=DH) (a0:=a0) (u:=u) hgd hog hogd rfl (by omega) (hF 34 (by omega))
   cases hp:p4
   ·skip
    rw[hp,cond_false]at y0
    exact .inl ⟨(WG hgd).trans (by rw[hp];rfl),wp_value (v:=.int .i64 side) (w':=W) (by simp only[execOp,op,y0];simp[z3,go_sem,Result.andThen]) ⟨_,put_in hd rfl u _,rfl,by rfl⟩⟩
   ·exact .inr ⟨(WG hgd).trans (by rw[hp];rfl),hd,rfl,by rfl⟩
  ·obtain⟨hd,op,hgd⟩:=hasG_at h37 ho
   have y0:=(ev 50 rfl (by omega)).trans (hF 36 (by omega))
   obtain⟨og,hog,hogd⟩:=hasG_ex h34
   have WG:=fun (hgd:o.guard=some (34,false))=>wanted_some (D:=DH) (a0:=a0) (u:=u) hgd hog hogd rfl (by omega) (hF 34 (by omega))
   cases hp:p4
   ·skip
    rw[hp,cond_false]at y0
    exact .inl ⟨(WG hgd).trans (by rw[hp];rfl),wp_call (f:=56) (args:=#[.int .i64 side,.int .i64 0,.int .i64 1]) (by simp only[execOp,op];go_simp;exact (getD_at _ _).symm.trans y0) ((heads.l1In_any side 0 1 W).mono (by rintro e w' ⟨rfl,rfl⟩;exact⟨_,rfl,_,put_in hd rfl u _,rfl,by rfl⟩))⟩
   ·exact .inr ⟨(WG hgd).trans (by rw[hp];rfl),hd,rfl,by rfl⟩
  ·obtain⟨hd,op,hgd⟩:=hasG_at h38 ho
   have y0:=(ev 51 rfl (by omega)).trans (hF 37 (by omega))
   obtain⟨og,hog,hogd⟩:=hasG_ex h34
   have WG:=fun (hgd:o.guard=some (34,false))=>wanted_some (D:=DH) (a0:=a0) (u:=u) hgd hog hogd rfl (by omega) (hF 34 (by omega))
   cases hp:p4
   ·skip
    rw[hp,cond_false]at y0
    exact .inl ⟨(WG hgd).trans (by rw[hp];rfl),wp_value (v:=.bool (!(inR 0 1 side))) (w':=W) (by simp only[execOp,op,y0];simp[go_sem,Result.andThen]) ⟨_,put_in hd rfl u _,rfl,by rfl⟩⟩
   ·exact .inr ⟨(WG hgd).trans (by rw[hp];rfl),hd,rfl,by rfl⟩
  ·obtain⟨hd,op,hgd⟩:=hasG_at h39 ho
   have y0:=(ev 48 rfl (by omega)).trans (hF 34 (by omega))
   have y1:=(ev 52 rfl (by omega)).trans (hF 38 (by omega))
   exact .inl ⟨wanted_none hgd,wp_value (v:=.bool p5) (w':=W) (by rw[q5];cases hh:p4<;>rw[hh]at y0 y1<;>simp only[execOp,op,y0,y1]<;>simp[go_sem,Result.andThen]) ⟨_,put_in hd rfl u _,rfl,rfl⟩⟩
  ·obtain⟨hd,op,hgd⟩:=hasG_at h40 ho
   have y0:=(ev 53 rfl (by omega)).trans (hF 39 (by omega))
   exact .inl ⟨wanted_none hgd,wp_value (v:=.bool p5) (w':=W) (by simp only[execOp,op,y0];simp[go_sem,Result.andThen]) ⟨_,put_in hd rfl u _,rfl,by rfl⟩⟩
  ·obtain⟨hd,op,hgd⟩:=hasG_at h41 ho
   obtain⟨og,hog,hogd⟩:=hasG_ex h40
   have WG:=fun (hgd:o.guard=some (40,false))=>wanted_some (D:=DH) (a0:=a0) (u:=u) hgd hog hogd rfl (by omega) (hF 40 (by omega))
   cases hp:p5
   ·skip
    exact .inl ⟨(WG hgd).trans (by rw[hp];rfl),wp_value (v:=.pointer (some ⟨B,4,none⟩)) (w':=W) (by simp only[execOp,op,x1];simp[ri9_f4,go_sem,Result.andThen]) ⟨_,put_in hd rfl u _,rfl,by rfl⟩⟩
   ·exact .inr ⟨(WG hgd).trans (by rw[hp];rfl),hd,rfl,by rfl⟩
  ·obtain⟨hd,op,hgd⟩:=hasG_at h42 ho
   have y0:=(ev 55 rfl (by omega)).trans (hF 41 (by omega))
   obtain⟨og,hog,hogd⟩:=hasG_ex h40
   have WG:=fun (hgd:o.guard=some (40,false))=>wanted_some (D:=DH) (a0:=a0) (u:=u) hgd hog hogd rfl (by omega) (hF 40 (by omega))
   cases hp:p5
   ·skip
    rw[hp,cond_false]at y0
    exact .inl ⟨(WG hgd).trans (by rw[hp];rfl),wp_value (v:=.int .i64 top) (w':=W) (by simp only[execOp,op,y0];simp[z4,go_sem,Result.andThen]) ⟨_,put_in hd rfl u _,rfl,by rfl⟩⟩
   ·exact .inr ⟨(WG hgd).trans (by rw[hp];rfl),hd,rfl,by rfl⟩
  ·obtain⟨hd,op,hgd⟩:=hasG_at h43 ho
   obtain⟨og,hog,hogd⟩:=hasG_ex h40
   have WG:=fun (hgd:o.guard=some (40,false))=>wanted_some (D:=DH) (a0:=a0) (u:=u) hgd hog hogd rfl (by omega) (hF 40 (by omega))
   cases hp:p5
   ·skip
    exact .inl ⟨(WG hgd).trans (by rw[hp];rfl),wp_value (v:=.pointer (some ⟨B,0,none⟩)) (w':=W) (by simp only[execOp,op,x1];simp[ri9_f0,go_sem,Result.andThen]) ⟨_,put_in hd rfl u _,rfl,by rfl⟩⟩
   ·exact .inr ⟨(WG hgd).trans (by rw[hp];rfl),hd,rfl,by rfl⟩
  ·obtain⟨hd,op,hgd⟩:=hasG_at h44 ho
   have y0:=(ev 57 rfl (by omega)).trans (hF 43 (by omega))
   obtain⟨og,hog,hogd⟩:=hasG_ex h40
   have WG:=fun (hgd:o.guard=some (40,false))=>wanted_some (D:=DH) (a0:=a0) (u:=u) hgd hog hogd rfl (by omega) (hF 40 (by omega))
   cases hp:p5
   ·skip
    rw[hp,cond_false]at y0
    exact .inl ⟨(WG hgd).trans (by rw[hp];rfl),wp_value (v:=.int .i64 half) (w':=W) (by simp only[execOp,op,y0];simp[z0,go_sem,Result.andThen]) ⟨_,put_in hd rfl u _,rfl,by rfl⟩⟩
   ·exact .inr ⟨(WG hgd).trans (by rw[hp];rfl),hd,rfl,by rfl⟩
  ·obtain⟨hd,op,hgd⟩:=hasG_at h45 ho
   have y0:=(ev 56 rfl (by omega)).trans (hF 42 (by omega))
   have y1:=(ev 58 rfl (by omega)).trans (hF 44 (by omega))
   obtain⟨og,hog,hogd⟩:=hasG_ex h40
   have WG:=fun (hgd:o.guard=some (40,false))=>wanted_some (D:=DH) (a0:=a0) (u:=u) hgd hog hogd rfl (by omega) (hF 40 (by omega))
   cases hp:p5
   ·skip
    rw[hp,cond_false]at y0
    rw[hp,cond_false]at y1
    exact .inl ⟨(WG hgd).trans (by rw[hp];rfl),wp_call (f:=56) (args:=#[.int .i64 top,.int .i64 0,.int .i64 half]) (by simp only[execOp,op];go_simp;exact⟨(getD_at _ _).symm.trans y0,(getD_at _ _).symm.trans y1⟩) ((heads.l1In_any top 0 half W).mono (by rintro e w' ⟨rfl,rfl⟩;exact⟨_,rfl,_,put_in hd rfl u _,rfl,by rfl⟩))⟩
   ·exact .inr ⟨(WG hgd).trans (by rw[hp];rfl),hd,rfl,by rfl⟩
  ·obtain⟨hd,op,hgd⟩:=hasG_at h46 ho
   have y0:=(ev 59 rfl (by omega)).trans (hF 45 (by omega))
   obtain⟨og,hog,hogd⟩:=hasG_ex h40
   have WG:=fun (hgd:o.guard=some (40,false))=>wanted_some (D:=DH) (a0:=a0) (u:=u) hgd hog hogd rfl (by omega) (hF 40 (by omega))
   cases hp:p5
   ·skip
    rw[hp,cond_false]at y0
    exact .inl ⟨(WG hgd).trans (by rw[hp];rfl),wp_value (v:=.bool (!(inR 0 half top))) (w':=W) (by simp only[execOp,op,y0];simp[go_sem,Result.andThen]) ⟨_,put_in hd rfl u _,rfl,by rfl⟩⟩
   ·exact .inr ⟨(WG hgd).trans (by rw[hp];rfl),hd,rfl,by rfl⟩
  ·obtain⟨hd,op,hgd⟩:=hasG_at h47 ho
   have y0:=(ev 54 rfl (by omega)).trans (hF 40 (by omega))
   have y1:=(ev 60 rfl (by omega)).trans (hF 46 (by omega))
   exact .inl ⟨wanted_none hgd,wp_value (v:=.bool p6) (w':=W) (by rw[q6];cases hh:p5<;>rw[hh]at y0 y1<;>simp only[execOp,op,y0,y1]<;>simp[go_sem,Result.andThen]) ⟨_,put_in hd rfl u _,rfl,rfl⟩⟩
  ·obtain⟨hd,op,hgd⟩:=hasG_at h48 ho
   have y0:=(ev 61 rfl (by omega)).trans (hF 47 (by omega))
   exact .inl ⟨wanted_none hgd,wp_value (v:=.bool p6) (w':=W) (by simp only[execOp,op,y0];simp[go_sem,Result.andThen]) ⟨_,put_in hd rfl u _,rfl,by rfl⟩⟩
  ·obtain⟨hd,op,hgd⟩:=hasG_at h49 ho
   obtain⟨og,hog,hogd⟩:=hasG_ex h48
   have WG:=fun (hgd:o.guard=some (48,false))=>wanted_some (D:=DH) (a0:=a0) (u:=u) hgd hog hogd rfl (by omega) (hF 48 (by omega))
   cases hp:p6
   ·skip
    exact .inl ⟨(WG hgd).trans (by rw[hp];rfl),wp_value (v:=.pointer (some ⟨B,5,none⟩)) (w':=W) (by simp only[execOp,op,x1];simp[ri9_f5,go_sem,Result.andThen]) ⟨_,put_in hd rfl u _,rfl,by rfl⟩⟩
   ·exact .inr ⟨(WG hgd).trans (by rw[hp];rfl),hd,rfl,by rfl⟩
  ·obtain⟨hd,op,hgd⟩:=hasG_at h50 ho
   have y0:=(ev 63 rfl (by omega)).trans (hF 49 (by omega))
   obtain⟨og,hog,hogd⟩:=hasG_ex h48
   have WG:=fun (hgd:o.guard=some (48,false))=>wanted_some (D:=DH) (a0:=a0) (u:=u) hgd hog hogd rfl (by omega) (hF 48 (by omega))
   cases hp:p6
   ·skip
    rw[hp,cond_false]at y0
    exact .inl ⟨(WG hgd).trans (by rw[hp];rfl),wp_value (v:=.slice a2 ol c2) (w':=W) (by simp only[execOp,op,y0];simp[z5,go_sem,Result.andThen]) ⟨_,put_in hd rfl u _,rfl,by rfl⟩⟩
   ·exact .inr ⟨(WG hgd).trans (by rw[hp];rfl),hd,rfl,by rfl⟩
  ·obtain⟨hd,op,hgd⟩:=hasG_at h51 ho
   have y0:=(ev 64 rfl (by omega)).trans (hF 50 (by omega))
   obtain⟨og,hog,hogd⟩:=hasG_ex h48
   have WG:=fun (hgd:o.guard=some (48,false))=>wanted_some (D:=DH) (a0:=a0) (u:=u) hgd hog hogd rfl (by omega) (hF 48 (by omega))
   cases hp:p6
   ·skip
    rw[hp,cond_false]at y0
    exact .inl ⟨(WG hgd).trans (by rw[hp];rfl),wp_value (v:=.int .i64 (ol:Int)) (w':=W) (by simp only[execOp,op,y0];simp[go_sem,Result.andThen];rw[(getD_at _ _).symm.trans y0];go_simp) ⟨_,put_in hd rfl u _,rfl,by rfl⟩⟩
   ·exact .inr ⟨(WG hgd).trans (by rw[hp];rfl),hd,rfl,by rfl⟩
  ·obtain⟨hd,op,hgd⟩:=hasG_at h52 ho
   have y0:=(ev 65 rfl (by omega)).trans (hF 51 (by omega))
   obtain⟨og,hog,hogd⟩:=hasG_ex h48
   have WG:=fun (hgd:o.guard=some (48,false))=>wanted_some (D:=DH) (a0:=a0) (u:=u) hgd hog hogd rfl (by omega) (hF 48 (by omega))
   cases hp:p6
   ·have hp0:p1=false:=by exact chain6 hp
    rw[hp,cond_false]at y0
    exact .inl ⟨(WG hgd).trans (by rw[hp];rfl),wp_value (v:=.bool ((ol:Int) != 6)) (w':=W) (by have bb:=bnd hp0;simp only[execOp,op,y0];simp[go_sem,Result.andThen]) ⟨_,put_in hd rfl u _,rfl,by rfl⟩⟩
   ·exact .inr ⟨(WG hgd).trans (by rw[hp];rfl),hd,rfl,by rfl⟩
  ·obtain⟨hd,op,hgd⟩:=hasG_at h53 ho
   have y0:=(ev 62 rfl (by omega)).trans (hF 48 (by omega))
   have y1:=(ev 66 rfl (by omega)).trans (hF 52 (by omega))
   exact .inl ⟨wanted_none hgd,wp_value (v:=.bool p7) (w':=W) (by rw[q7];cases hh:p6<;>rw[hh]at y0 y1<;>simp only[execOp,op,y0,y1]<;>simp[go_sem,Result.andThen]) ⟨_,put_in hd rfl u _,rfl,rfl⟩⟩
  ·obtain⟨hd,op,hgd⟩:=hasG_at h54 ho
   have y0:=(ev 67 rfl (by omega)).trans (hF 53 (by omega))
   exact .inl ⟨wanted_none hgd,wp_value (v:=.bool p7) (w':=W) (by simp only[execOp,op,y0];simp[go_sem,Result.andThen]) ⟨_,put_in hd rfl u _,rfl,by rfl⟩⟩
  ·obtain⟨hd,op,hgd⟩:=hasG_at h55 ho
   obtain⟨og,hog,hogd⟩:=hasG_ex h54
   have WG:=fun (hgd:o.guard=some (54,false))=>wanted_some (D:=DH) (a0:=a0) (u:=u) hgd hog hogd rfl (by omega) (hF 54 (by omega))
   cases hp:p7
   ·skip
    exact .inl ⟨(WG hgd).trans (by rw[hp];rfl),wp_value (v:=.pointer (some ⟨B,6,none⟩)) (w':=W) (by simp only[execOp,op,x1];simp[ri9_f6,go_sem,Result.andThen]) ⟨_,put_in hd rfl u _,rfl,by rfl⟩⟩
   ·exact .inr ⟨(WG hgd).trans (by rw[hp];rfl),hd,rfl,by rfl⟩
  ·obtain⟨hd,op,hgd⟩:=hasG_at h56 ho
   have y0:=(ev 69 rfl (by omega)).trans (hF 55 (by omega))
   obtain⟨og,hog,hogd⟩:=hasG_ex h54
   have WG:=fun (hgd:o.guard=some (54,false))=>wanted_some (D:=DH) (a0:=a0) (u:=u) hgd hog hogd rfl (by omega) (hF 54 (by omega))
   cases hp:p7
   ·skip
    rw[hp,cond_false]at y0
    exact .inl ⟨(WG hgd).trans (by rw[hp];rfl),wp_value (v:=.slice a3 ml c3) (w':=W) (by simp only[execOp,op,y0];simp[z6,go_sem,Result.andThen]) ⟨_,put_in hd rfl u _,rfl,by rfl⟩⟩
   ·exact .inr ⟨(WG hgd).trans (by rw[hp];rfl),hd,rfl,by rfl⟩
  ·obtain⟨hd,op,hgd⟩:=hasG_at h57 ho
   have y0:=(ev 70 rfl (by omega)).trans (hF 56 (by omega))
   obtain⟨og,hog,hogd⟩:=hasG_ex h54
   have WG:=fun (hgd:o.guard=some (54,false))=>wanted_some (D:=DH) (a0:=a0) (u:=u) hgd hog hogd rfl (by omega) (hF 54 (by omega))
   cases hp:p7
   ·skip
    rw[hp,cond_false]at y0
    exact .inl ⟨(WG hgd).trans (by rw[hp];rfl),wp_value (v:=.int .i64 (ml:Int)) (w':=W) (by simp only[execOp,op,y0];simp[go_sem,Result.andThen];rw[(getD_at _ _).symm.trans y0];go_simp) ⟨_,put_in hd rfl u _,rfl,by rfl⟩⟩
   ·exact .inr ⟨(WG hgd).trans (by rw[hp];rfl),hd,rfl,by rfl⟩
  ·obtain⟨hd,op,hgd⟩:=hasG_at h58 ho
   have y0:=(ev 71 rfl (by omega)).trans (hF 57 (by omega))
   obtain⟨og,hog,hogd⟩:=hasG_ex h54
   have WG:=fun (hgd:o.guard=some (54,false))=>wanted_some (D:=DH) (a0:=a0) (u:=u) hgd hog hogd rfl (by omega) (hF 54 (by omega))
   cases hp:p7
   ·have hp0:p1=false:=by exact chain7 hp
    rw[hp,cond_false]at y0
    exact .inl ⟨(WG hgd).trans (by rw[hp];rfl),wp_value (v:=.bool (decide (40<(ml:Int)))) (w':=W) (by have bb:=bnd hp0;simp only[execOp,op,y0];simp[go_sem,Result.andThen]) ⟨_,put_in hd rfl u _,rfl,by rfl⟩⟩
   ·exact .inr ⟨(WG hgd).trans (by rw[hp];rfl),hd,rfl,by rfl⟩
  ·obtain⟨hd,op,hgd⟩:=hasG_at h59 ho
   have y0:=(ev 68 rfl (by omega)).trans (hF 54 (by omega))
   have y1:=(ev 72 rfl (by omega)).trans (hF 58 (by omega))
   exact .inl ⟨wanted_none hgd,wp_value (v:=.bool p8) (w':=W) (by rw[q8];cases hh:p7<;>rw[hh]at y0 y1<;>simp only[execOp,op,y0,y1]<;>simp[go_sem,Result.andThen]) ⟨_,put_in hd rfl u _,rfl,rfl⟩⟩
  ·obtain⟨hd,op,hgd⟩:=hasG_at h60 ho
   have y0:=(ev 73 rfl (by omega)).trans (hF 59 (by omega))
   exact .inl ⟨wanted_none hgd,wp_value (v:=.bool p8) (w':=W) (by simp only[execOp,op,y0];simp[go_sem,Result.andThen]) ⟨_,put_in hd rfl u _,rfl,by rfl⟩⟩
  ·obtain⟨hd,op,hgd⟩:=hasG_at h61 ho
   obtain⟨og,hog,hogd⟩:=hasG_ex h60
   have WG:=fun (hgd:o.guard=some (60,false))=>wanted_some (D:=DH) (a0:=a0) (u:=u) hgd hog hogd rfl (by omega) (hF 60 (by omega))
   cases hp:p8
   ·skip
    exact .inl ⟨(WG hgd).trans (by rw[hp];rfl),wp_value (v:=.pointer (some ⟨B,8,none⟩)) (w':=W) (by simp only[execOp,op,x1];simp[ri9_f8,go_sem,Result.andThen]) ⟨_,put_in hd rfl u _,rfl,by rfl⟩⟩
   ·exact .inr ⟨(WG hgd).trans (by rw[hp];rfl),hd,rfl,by rfl⟩
  ·obtain⟨hd,op,hgd⟩:=hasG_at h62 ho
   have y0:=(ev 75 rfl (by omega)).trans (hF 61 (by omega))
   obtain⟨og,hog,hogd⟩:=hasG_ex h60
   have WG:=fun (hgd:o.guard=some (60,false))=>wanted_some (D:=DH) (a0:=a0) (u:=u) hgd hog hogd rfl (by omega) (hF 60 (by omega))
   cases hp:p8
   ·skip
    rw[hp,cond_false]at y0
    exact .inl ⟨(WG hgd).trans (by rw[hp];rfl),wp_value (v:=.int .i64 seed) (w':=W) (by simp only[execOp,op,y0];simp[z8,go_sem,Result.andThen]) ⟨_,put_in hd rfl u _,rfl,by rfl⟩⟩
   ·exact .inr ⟨(WG hgd).trans (by rw[hp];rfl),hd,rfl,by rfl⟩
  ·obtain⟨hd,op,hgd⟩:=hasG_at h63 ho
   have y0:=(ev 76 rfl (by omega)).trans (hF 62 (by omega))
   obtain⟨og,hog,hogd⟩:=hasG_ex h60
   have WG:=fun (hgd:o.guard=some (60,false))=>wanted_some (D:=DH) (a0:=a0) (u:=u) hgd hog hogd rfl (by omega) (hF 60 (by omega))
   cases hp:p8
   ·skip
    rw[hp,cond_false]at y0
    exact .inl ⟨(WG hgd).trans (by rw[hp];rfl),wp_call (f:=56) (args:=#[.int .i64 seed,.int .i64 0,.int .i64 65535]) (by simp only[execOp,op];go_simp;exact (getD_at _ _).symm.trans y0) ((heads.l1In_any seed 0 65535 W).mono (by rintro e w' ⟨rfl,rfl⟩;exact⟨_,rfl,_,put_in hd rfl u _,rfl,by rfl⟩))⟩
   ·exact .inr ⟨(WG hgd).trans (by rw[hp];rfl),hd,rfl,by rfl⟩
  ·obtain⟨hd,op,hgd⟩:=hasG_at h64 ho
   have y0:=(ev 77 rfl (by omega)).trans (hF 63 (by omega))
   obtain⟨og,hog,hogd⟩:=hasG_ex h60
   have WG:=fun (hgd:o.guard=some (60,false))=>wanted_some (D:=DH) (a0:=a0) (u:=u) hgd hog hogd rfl (by omega) (hF 60 (by omega))
   cases hp:p8
   ·skip
    rw[hp,cond_false]at y0
    exact .inl ⟨(WG hgd).trans (by rw[hp];rfl),wp_value (v:=.bool (!(inR 0 65535 seed))) (w':=W) (by simp only[execOp,op,y0];simp[go_sem,Result.andThen]) ⟨_,put_in hd rfl u _,rfl,by rfl⟩⟩
   ·exact .inr ⟨(WG hgd).trans (by rw[hp];rfl),hd,rfl,by rfl⟩
  ·obtain⟨hd,op,hgd⟩:=hasG_at h65 ho
   have y0:=(ev 74 rfl (by omega)).trans (hF 60 (by omega))
   have y1:=(ev 78 rfl (by omega)).trans (hF 64 (by omega))
   exact .inl ⟨wanted_none hgd,wp_value (v:=.bool p9) (w':=W) (by rw[q9];cases hh:p8<;>rw[hh]at y0 y1<;>simp only[execOp,op,y0,y1]<;>simp[go_sem,Result.andThen]) ⟨_,put_in hd rfl u _,rfl,rfl⟩⟩
 ·rintro u W rfl hF
  exact fin u (hF 65 (by omega))
end Go.Proofs.YtkiognecebgaiaaGreatDoor.hp
