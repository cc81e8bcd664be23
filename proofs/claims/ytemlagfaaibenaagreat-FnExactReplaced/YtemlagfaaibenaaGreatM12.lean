/-
  Chapter 8 as the specification has it: a free chunk written, free chunks joined, and nothing but the row's block is changed. A number put into a list of numbers and taken out of one: slices.Insert, slices.Delete. What may change while a drawn region with a store is run: nothing of what there was but
-/
import Derived.Test.YtemlagfaaibenaaGreatM11
import Derived.Test.YtemlagfaaibenaaGreatM2
import Derived.Test.YtemlagfaaibenaaGreatM4
import Derived.Laws.AppendOwnNone
import Derived.Maps.AppendAt
import Derived.Lib.AppendZerosOnto
import Derived.Deep.RegionLaw
namespace Go.Proofs.YtemlagfaaibenaaGreat.walks
open Go.RowKit rows heads words
set_option maxRecDepth 100000
set_option linter.unusedVariables false
theorem gtr {a w w':World} {row:Option Nat} (h:a.grownBy w row) (k:w.grownBy w' row):a.grownBy w' row:=
 ⟨k.os.trans h.os,k.tape.trans h.tape,k.output.trans h.output,Nat.le_trans h.size k.size,fun j hj hn=>(k.block j (Nat.lt_of_lt_of_le hj h.size) hn).trans (h.block j hj hn)⟩
theorem gset (W:World) (g i:Nat) (v:Value):W.grownBy (W.setCell ⟨g,i,none⟩ v) (some g):=⟨rfl,rfl,rfl,by simp,fun j _ hn=>Below.heap_setCell W _ v j (fun e=>hn (by simp[e]))⟩
end Go.Proofs.YtemlagfaaibenaaGreat.walks
namespace Go.Proofs.YtemlagfaaibenaaGreat.hp
open Go.RowKit rows
set_option linter.unusedVariables false
set_option linter.unusedSimpArgs false
theorem zeroI (w:World):(zeroValue 2).run Tryz.prog w = .ok (.int .i64 0) w:=by kernel_rfl
end Go.Proofs.YtemlagfaaibenaaGreat.hp
namespace Go.Proofs.YtemlagfaaibenaaGreat.hp
open Go.RowKit rows heads words walks region
set_option linter.unusedVariables false
def RelB (B:Nat) (G C:Option Obj→Prop) (W W':World):Prop:=Ch [B] W W'∧(G W.heap[B]? → G W'.heap[B]?)∧(C W.heap[B]? → C W'.heap[B]?)
theorem relB_refl (B:Nat) (G C:Option Obj→Prop) (W:World):RelB B G C W W:=⟨Ch.refl _ _,fun z=>z,fun z=>z⟩
theorem relB_trans (B:Nat) (G C:Option Obj→Prop) (a b c:World) (h:RelB B G C a b) (g:RelB B G C b c):RelB B G C a c:=⟨h.1.trans g.1,fun z=>g.2.1 (h.2.1 z),fun z=>g.2.2 (h.2.2 z)⟩
theorem relB_drew (B:Nat) (G C:Option Obj→Prop) (W:World):RelB B G C W W.drew:=⟨⟨rfl,rfl,rfl,Nat.le_refl _,fun _ _ _=>rfl⟩,fun z=>z,fun z=>z⟩
theorem relB_below {B:Nat} {G C:Option Obj→Prop} {W W':World} (h:Below W.heap.size W W') (hB:B<W.heap.size):RelB B G C W W':=⟨ch_below h,fun z=>by rw[h.block _ hB];exact z,fun z=>by rw[h.block _ hB];exact z⟩
theorem ch_cell {S:List Nat} {w w':World} {p:Addr} (h:Ch S w w') (hl:p.block<w.heap.size) (hn:p.block ∉ S):w'.cell? p=w.cell? p:=by
 unfold World.cell?
 rw[h.block _ hl hn]
end Go.Proofs.YtemlagfaaibenaaGreat.hp
