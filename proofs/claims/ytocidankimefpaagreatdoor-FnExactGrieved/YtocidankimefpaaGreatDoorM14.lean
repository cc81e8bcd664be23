/- A number put into a list of numbers of t -/
import Derived.Test.YtocidankimefpaaGreatDoorM13
import Derived.Lib.Overlaps
import Derived.Test.YtocidankimefpaaGreatDoorReachS4
set_option linter.unusedSimpArgs false
set_option linter.unusedVariables false
set_option maxRecDepth 100000
namespace Go.Proofs.YtocidankimefpaaGreatDoor.hp
open Go.RowKit rows
theorem ry {w:World} {base:Nat} {ops:Array Oper} {rest:List Oper} {o:Oper} {act:Act} {Q:Exit→Act→World→Prop} {v:Value} {vb n:Nat} {es:List Int} {x:Int}
    (hbs:base≤w.heap.size) (hown:w.ownsRow base 2 1 v n (cellsOf es)) (h:w.heap[vb]? = some (.cells #[.int .i64 x] 2 (0,0))) (hl:n≤1048576)
    (hgd:o.guard=none) (s y:Operand) (ho:o.op = .call { callee:=.builtin .append,args:=#[s,y],argTypes:=#[22,22] })
    (hs:act.eval s=v) (hy:act.eval y = .slice (some ⟨vb,0,none⟩) 1 1)
    (hK:∀a' c' w1,w1.ownsRow base 2 1 (.slice a' (n+1) c') (n+1) (cellsOf (es++[x]))→Ch (blk v) w w1→(∀k ∈ blk (.slice a' (n+1) c'),k ∈ blk v∨w.heap.size≤k)→wpList Tryz.prog ops Q rest (act.put o.dst (.slice a' (n+1) c')) w1) :
    wpList Tryz.prog ops Q (o :: rest) act w:=by
 obtain⟨i0,hi,hz0,hz1,hz2⟩:=info_parts info;have F:Full w vb [x]:=h;refine wpList_append_own_at _ hgd s y 22 ho _ 2 i0 (.int .i64 0) 1 8 Tryz.underlying22 hi hz0 hz1 hz2 rfl (by decide) v n (cellsOf es) hs hown ⟨vb,0,none⟩ 1 1 (cellsOf [x]) hy (by simp) (cA (aj (fZ (base:=0) F (Nat.zero_le _) (show 1≤maxLen by decide)))) (sj [x]) (by unfold maxLen;omega) (by omega) hbs ?_;intro v' w1 hown' hgrow _ hat
 obtain⟨a',c',rfl⟩:∃a c,v' = .slice a (n+1) c:=by
  obtain⟨_,⟨h1,h2⟩|⟨g',c',cur,h1,_⟩⟩:=hown'
  ·omega
  ·exact⟨_,_,h1⟩
 refine hK a' c' w1 (by rw[lU];exact hown') (cJ hgrow) (fun k hk => ?_);unfold blk at hk ⊢;rcases hat with e|e
 ·rw[e]at hk;exact .inl hk
 ·rw[e]at hk;simp at hk;exact .inr (by omega)
end Go.Proofs.YtocidankimefpaaGreatDoor.hp
namespace Go.Proofs.YtocidankimefpaaGreatDoor.gr
open Go.RowKit rows heads
end Go.Proofs.YtocidankimefpaaGreatDoor.gr
namespace Go.Proofs.YtocidankimefpaaGreatDoor.hp
open Go.RowKit rows heads words walks
structure ChP (S:Nat→Prop) (w w':World):Prop where
 os:w'.os=w.os
 tape:w'.tape=w.tape
 output:w'.output=w.output
 size:w.heap.size≤w'.heap.size
 block:∀k,k<w.heap.size→¬S k→w'.heap[k]? = w.heap[k]?
theorem ChP.refl (S:Nat→Prop) (w:World):ChP S w w:=⟨rfl,rfl,rfl,Nat.le_refl _,fun _ _ _=>rfl⟩
theorem ChP.trans {S S':Nat→Prop} {a b c:World} (h:ChP S a b) (k:ChP S' b c) (hs:∀j,S' j→S j∨a.heap.size≤j):ChP S a c:=
 ⟨k.os.trans h.os,k.tape.trans h.tape,k.output.trans h.output,Nat.le_trans h.size k.size,fun i hi hn=>(k.block i (Nat.lt_of_lt_of_le hi h.size) (fun e=>(hs i e).elim hn (fun e=>by omega))).trans (h.block i hi hn)⟩
theorem vS {S:Nat→Prop} {a b:World} (h:Below a.heap.size a b):ChP S a b:=⟨h.os,h.tape,h.output,h.size,fun k hk _=>h.block k hk⟩
theorem D7 {S:Nat→Prop} {B:Nat} {a b:World} (h:ChP S a b) (hb:B≤a.heap.size) (hs:∀k,S k→B≤k):Below B a b:=⟨h.os,h.tape,h.output,h.size,fun k hk=>h.block k (by omega) (fun e=>by have:=hs k e;omega)⟩
end Go.Proofs.YtocidankimefpaaGreatDoor.hp
