/-
  Chapter 12 as the program has it: the object at a place, the one with such a slot; Fetched. Chapter 12 as the program has it: Fetched. Chapter 12 as the program has it: who sees the young, Slot by Slot; Seen with one place more or less. Chapter 12 as the program has it: a heap's copy; Stored.
-/
import Derived.Test.YtemlagfaaibenaaGreatFollowI
import Derived.Test.YtemlagfaaibenaaGreatM23
import Derived.Test.YtemlagfaaibenaaGreatM21
import Derived.Test.YtemlagfaaibenaaGreatM12
import Derived.Test.YtemlagfaaibenaaGreatM2
import Derived.ChangeKeysEq
import Derived.Laws.Rows
import Derived.Test.YtemlagfaaibenaaGreatM22
namespace Go.Proofs.YtemlagfaaibenaaGreat.hp
open Go.RowKit rows heads words walks region
set_option maxRecDepth 100000
set_option linter.unusedVariables false
set_option linter.unusedSimpArgs false
structure CqS (w W:World) (H:Hp) (c2 c5 c6 c7:Value):Prop where
 n0:Nine W w.heap.size 27 (.int .i64 H.half) (.int .i64 H.old) c2 (.int .i64 H.side) (.int .i64 H.top) c5 c6 c7 (.int .i64 H.seed)
 n1:Nine W (w.heap.size+1) 27 (.int .i64 0) (.int .i64 0) (.slice none 0 0) (.int .i64 0) (.int .i64 0) (.slice none 0 0) (.slice none 0 0) (.slice none 0 0) (.int .i64 0)
 below:Below w.heap.size w W
 size:w.heap.size+2≤W.heap.size
theorem CqS.grow {w W W':World} {H:Hp} {c2 c5 c6 c7:Value} (h:CqS w W H c2 c5 c6 c7) (hb:Below W.heap.size W W'):CqS w W' H c2 c5 c6 c7:=⟨nine_below h.n0 hb,nine_below h.n1 hb,h.below.trans (hb.mono h.below.size),Nat.le_trans h.size hb.size⟩
theorem CqS.fields {w W:World} {H:Hp} {c2 c5 c6 c7:Value} (h:CqS w W H c2 c5 c6 c7) {W':World} {d2 d5 d6 d7:Value} (hc:Ch [w.heap.size] W W') (h2:Nine W' w.heap.size 27 (.int .i64 H.half) (.int .i64 H.old) d2 (.int .i64 H.side) (.int .i64 H.top) d5 d6 d7 (.int .i64 H.seed)):CqS w W' H d2 d5 d6 d7:=
 ⟨h2,nine_ch h.n1 hc (by simp),h.below.trans (below_ch hc h.below.size (fun k hk=>by simp at hk;omega)),Nat.le_trans h.size hc.size⟩
theorem hpX2 {w:World} {H:Hp} (vr vo vm vs:Value):CqS w ((w.alloc (hpb H vr vo vm vs)).alloc (hpb ⟨0,0,[],0,0,[],[],[],0⟩ (.slice none 0 0) (.slice none 0 0) (.slice none 0 0) (.slice none 0 0))) H vr vo vm vs:=by
 have B0:Below w.heap.size w (w.alloc (hpb H vr vo vm vs)):=(Below.refl _ _).alloc (Nat.le_refl _) _
 exact⟨heap_alloc2_old _ _ _,heap_alloc2_new _ _ _,B0.alloc B0.size _,by simp⟩
set_option maxHeartbeats 16000000 in
theorem copiedHeap_any {w:World} {vr vo vm vs:Value} {H:Hp} (h:HpAt w vr vo vm vs H) (hs:hpSize H≤1048576) :
    Calls Tryz.prog 29 #[hpv H vr vo vm vs] w fun e w'=>∃g1 g2 g3 g4,e = .returned (hpv H (.slice (some ⟨g1,0,none⟩) H.row.length H.row.length) (.slice (some ⟨g2,0,none⟩) H.roots.length H.roots.length) (.slice (some ⟨g3,0,none⟩) H.mourned.length H.mourned.length) (.slice (some ⟨g4,0,none⟩) H.seen.length H.seen.length))∧OwnH w' w.heap.size (.slice (some ⟨g1,0,none⟩) H.row.length H.row.length) (.slice (some ⟨g2,0,none⟩) H.roots.length H.roots.length) (.slice (some ⟨g3,0,none⟩) H.mourned.length H.mourned.length) (.slice (some ⟨g4,0,none⟩) H.seen.length H.seen.length) H∧Below w.heap.size w w':=by
 obtain⟨a1,c1,a2,c2,a3,c3,a4,c4,e1,e2,e3,e4⟩:=hpAt_slices h
 subst e1 e2 e3 e4
 have l1:H.row.length≤1048576:=by unfold hpSize at hs;omega
 have l2:H.roots.length≤1048576:=by unfold hpSize at hs;omega
 have l3:H.mourned.length≤1048576:=by unfold hpSize at hs;omega
 have l4:H.seen.length≤1048576:=by unfold hpSize at hs;omega
 have HH:Hid _:=h
 have HS0:Hid _:=hpX2 (w:=w) (H:=H) (.slice a1 H.row.length c1) (.slice a2 H.roots.length c2) (.slice a3 H.mourned.length c3) (.slice a4 H.seen.length c4)
 clear h hs
 go_enter Tryz.func29,Tryz.ntmps29
 go_upto_region 1 with fail
 generalize (w.alloc _).alloc _=W0 at *
 obtain⟨⟨z0,z1,z2,z3,z4⟩,⟨z5,z6,z7,z8⟩,zf⟩:=nine_cells HS0.out.n0
 have CP:=copied_any (intsAt_below HH.out.1 HS0.out.below) l1
 clear zf
 go_upto_region 2 with (go_at_call 61;refine CP.mono ?_;clear CP z0 z1 z2 z3 z4 z5 z6 z7 z8;rintro e w11 ⟨rfl,F1,b1⟩;have HF:Hid _:=F1;have HB:Hid _:=b1;obtain⟨⟨z0,z1,z2,z3,z4⟩,⟨z5,z6,z7,z8⟩,zf⟩:=nine_cells (HS0.out.grow b1).n0;have f2:=zf 2;clear F1 b1 zf)
 have hg1:w.heap.size+2≤W0.heap.size:=HS0.out.size
 have HS1:Hid (CqS w (w11.setCell ⟨w.heap.size,2,none⟩ (.slice (some ⟨W0.heap.size,0,none⟩) H.row.length H.row.length)) H (.slice (some ⟨W0.heap.size,0,none⟩) H.row.length H.row.length) (.slice a2 H.roots.length c2) (.slice a3 H.mourned.length c3) (.slice a4 H.seen.length c4)):=(HS0.out.grow HB.out).fields (one_ch _ _ _ _) (nine_set2 (HS0.out.grow HB.out).n0 _)
 have HO1:Hid (rows.Own (w11.setCell ⟨w.heap.size,2,none⟩ (.slice (some ⟨W0.heap.size,0,none⟩) H.row.length H.row.length)) (w.heap.size+2) (.slice (some ⟨W0.heap.size,0,none⟩) H.row.length H.row.length) H.row):=row_ch (S:=[w.heap.size]) (full_own HF.out hg1 (show H.row.length≤maxLen by unfold maxLen;omega)) (one_ch _ _ _ _) (fun j hj=>by obtain rfl:j=W0.heap.size:=(by simpa [blk,Value.ownBlock] using hj);simp;omega)
 clear HF HB z0 z1 z2 z3 z4 z5 z6 z7 z8 HS0 f2
 generalize w11.setCell ⟨w.heap.size,2,none⟩ (.slice (some ⟨W0.heap.size,0,none⟩) H.row.length H.row.length)=W1 at *
 generalize W0.heap.size=g1 at *
 have HO01:Hid _:=HO1.out
 obtain⟨⟨z0,z1,z2,z3,z4⟩,⟨z5,z6,z7,z8⟩,zf⟩:=nine_cells HS1.out.n0
 have CP:=copied_any (intsAt_below HH.out.2.1 HS1.out.below) l2
 clear zf
 go_upto_region 3 with (go_at_call 61;refine CP.mono ?_;clear CP z0 z1 z2 z3 z4 z5 z6 z7 z8;rintro e w12 ⟨rfl,F1,b1⟩;have HF:Hid _:=F1;have HB:Hid _:=b1;obtain⟨⟨z0,z1,z2,z3,z4⟩,⟨z5,z6,z7,z8⟩,zf⟩:=nine_cells (HS1.out.grow b1).n0;have f5:=zf 5;clear F1 b1 zf)
 have hg2:w.heap.size+2≤W1.heap.size:=HS1.out.size
 have HS2:Hid (CqS w (w12.setCell ⟨w.heap.size,5,none⟩ (.slice (some ⟨W1.heap.size,0,none⟩) H.roots.length H.roots.length)) H (.slice (some ⟨g1,0,none⟩) H.row.length H.row.length) (.slice (some ⟨W1.heap.size,0,none⟩) H.roots.length H.roots.length) (.slice a3 H.mourned.length c3) (.slice a4 H.seen.length c4)):=(HS1.out.grow HB.out).fields (one_ch _ _ _ _) (nine_set5 (HS1.out.grow HB.out).n0 _)
 have HO2:Hid (rows.Own (w12.setCell ⟨w.heap.size,5,none⟩ (.slice (some ⟨W1.heap.size,0,none⟩) H.roots.length H.roots.length)) (w.heap.size+2) (.slice (some ⟨W1.heap.size,0,none⟩) H.roots.length H.roots.length) H.roots):=row_ch (S:=[w.heap.size]) (full_own HF.out hg2 (show H.roots.length≤maxLen by unfold maxLen;omega)) (one_ch _ _ _ _) (fun j hj=>by obtain rfl:j=W1.heap.size:=(by simpa [blk,Value.ownBlock] using hj);simp;omega)
 have HO1:Hid (rows.Own (w12.setCell ⟨w.heap.size,5,none⟩ (.slice (some ⟨W1.heap.size,0,none⟩) H.roots.length H.roots.length)) (w.heap.size+2) (.slice (some ⟨g1,0,none⟩) H.row.length H.row.length) H.row):=row_ch (S:=[w.heap.size]) (own_below HO1.out HB.out) (one_ch _ _ _ _) (fun j hj=>by have:=(blk_lt HO1.out j hj).1;simp;omega)
 have HD12:Hid (g1<W1.heap.size):=(blk_lt HO01.out g1 (List.mem_singleton.2 rfl)).2
 clear HF HB z0 z1 z2 z3 z4 z5 z6 z7 z8 HS1 f5
 generalize w12.setCell ⟨w.heap.size,5,none⟩ (.slice (some ⟨W1.heap.size,0,none⟩) H.roots.length H.roots.length)=W2 at *
 generalize W1.heap.size=g2 at *
 have HO01:Hid _:=HO1.out
 have HO02:Hid _:=HO2.out
 obtain⟨⟨z0,z1,z2,z3,z4⟩,⟨z5,z6,z7,z8⟩,zf⟩:=nine_cells HS2.out.n0
 have CP:=copied_any (intsAt_below HH.out.2.2.1 HS2.out.below) l3
 clear zf
 go_upto_region 4 with (go_at_call 61;refine CP.mono ?_;clear CP z0 z1 z2 z3 z4 z5 z6 z7 z8;rintro e w13 ⟨rfl,F1,b1⟩;have HF:Hid _:=F1;have HB:Hid _:=b1;obtain⟨⟨z0,z1,z2,z3,z4⟩,⟨z5,z6,z7,z8⟩,zf⟩:=nine_cells (HS2.out.grow b1).n0;have f6:=zf 6;clear F1 b1 zf)
 have hg3:w.heap.size+2≤W2.heap.size:=HS2.out.size
 have HS3:Hid (CqS w (w13.setCell ⟨w.heap.size,6,none⟩ (.slice (some ⟨W2.heap.size,0,none⟩) H.mourned.length H.mourned.length)) H (.slice (some ⟨g1,0,none⟩) H.row.length H.row.length) (.slice (some ⟨g2,0,none⟩) H.roots.length H.roots.length) (.slice (some ⟨W2.heap.size,0,none⟩) H.mourned.length H.mourned.length) (.slice a4 H.seen.length c4)):=(HS2.out.grow HB.out).fields (one_ch _ _ _ _) (nine_set6 (HS2.out.grow HB.out).n0 _)
 have HO3:Hid (rows.Own (w13.setCell ⟨w.heap.size,6,none⟩ (.slice (some ⟨W2.heap.size,0,none⟩) H.mourned.length H.mourned.length)) (w.heap.size+2) (.slice (some ⟨W2.heap.size,0,none⟩) H.mourned.length H.mourned.length) H.mourned):=row_ch (S:=[w.heap.size]) (full_own HF.out hg3 (show H.mourned.length≤maxLen by unfold maxLen;omega)) (one_ch _ _ _ _) (fun j hj=>by obtain rfl:j=W2.heap.size:=(by simpa [blk,Value.ownBlock] using hj);simp;omega)
 have HO1:Hid (rows.Own (w13.setCell ⟨w.heap.size,6,none⟩ (.slice (some ⟨W2.heap.size,0,none⟩) H.mourned.length H.mourned.length)) (w.heap.size+2) (.slice (some ⟨g1,0,none⟩) H.row.length H.row.length) H.row):=row_ch (S:=[w.heap.size]) (own_below HO1.out HB.out) (one_ch _ _ _ _) (fun j hj=>by have:=(blk_lt HO1.out j hj).1;simp;omega)
 have HD13:Hid (g1<W2.heap.size):=(blk_lt HO01.out g1 (List.mem_singleton.2 rfl)).2
 have HO2:Hid (rows.Own (w13.setCell ⟨w.heap.size,6,none⟩ (.slice (some ⟨W2.heap.size,0,none⟩) H.mourned.length H.mourned.length)) (w.heap.size+2) (.slice (some ⟨g2,0,none⟩) H.roots.length H.roots.length) H.roots):=row_ch (S:=[w.heap.size]) (own_below HO2.out HB.out) (one_ch _ _ _ _) (fun j hj=>by have:=(blk_lt HO2.out j hj).1;simp;omega)
 have HD23:Hid (g2<W2.heap.size):=(blk_lt HO02.out g2 (List.mem_singleton.2 rfl)).2
 clear HF HB z0 z1 z2 z3 z4 z5 z6 z7 z8 HS2 f6
 generalize w13.setCell ⟨w.heap.size,6,none⟩ (.slice (some ⟨W2.heap.size,0,none⟩) H.mourned.length H.mourned.length)=W3 at *
 generalize W2.heap.size=g3 at *
 have HO01:Hid _:=HO1.out
 have HO02:Hid _:=HO2.out
 have HO03:Hid _:=HO3.out
 obtain⟨⟨z0,z1,z2,z3,z4⟩,⟨z5,z6,z7,z8⟩,zf⟩:=nine_cells HS3.out.n0
 have CP:=copied_any (intsAt_below HH.out.2.2.2 HS3.out.below) l4
 clear zf
 go_upto_region 5 with (go_at_call 61;refine CP.mono ?_;clear CP z0 z1 z2 z3 z4 z5 z6 z7 z8;rintro e w14 ⟨rfl,F1,b1⟩;have HF:Hid _:=F1;have HB:Hid _:=b1;obtain⟨⟨z0,z1,z2,z3,z4⟩,⟨z5,z6,z7,z8⟩,zf⟩:=nine_cells (HS3.out.grow b1).n0;have f7:=zf 7;clear F1 b1 zf)
 have hg4:w.heap.size+2≤W3.heap.size:=HS3.out.size
 have HS4:Hid (CqS w (w14.setCell ⟨w.heap.size,7,none⟩ (.slice (some ⟨W3.heap.size,0,none⟩) H.seen.length H.seen.length)) H (.slice (some ⟨g1,0,none⟩) H.row.length H.row.length) (.slice (some ⟨g2,0,none⟩) H.roots.length H.roots.length) (.slice (some ⟨g3,0,none⟩) H.mourned.length H.mourned.length) (.slice (some ⟨W3.heap.size,0,none⟩) H.seen.length H.seen.length)):=(HS3.out.grow HB.out).fields (one_ch _ _ _ _) (nine_set7 (HS3.out.grow HB.out).n0 _)
 have HO4:Hid (rows.Own (w14.setCell ⟨w.heap.size,7,none⟩ (.slice (some ⟨W3.heap.size,0,none⟩) H.seen.length H.seen.length)) (w.heap.size+2) (.slice (some ⟨W3.heap.size,0,none⟩) H.seen.length H.seen.length) H.seen):=row_ch (S:=[w.heap.size]) (full_own HF.out hg4 (show H.seen.length≤maxLen by unfold maxLen;omega)) (one_ch _ _ _ _) (fun j hj=>by obtain rfl:j=W3.heap.size:=(by simpa [blk,Value.ownBlock] using hj);simp;omega)
 have HO1:Hid (rows.Own (w14.setCell ⟨w.heap.size,7,none⟩ (.slice (some ⟨W3.heap.size,0,none⟩) H.seen.length H.seen.length)) (w.heap.size+2) (.slice (some ⟨g1,0,none⟩) H.row.length H.row.length) H.row):=row_ch (S:=[w.heap.size]) (own_below HO1.out HB.out) (one_ch _ _ _ _) (fun j hj=>by have:=(blk_lt HO1.out j hj).1;simp;omega)
 have HD14:Hid (g1<W3.heap.size):=(blk_lt HO01.out g1 (List.mem_singleton.2 rfl)).2
 have HO2:Hid (rows.Own (w14.setCell ⟨w.heap.size,7,none⟩ (.slice (some ⟨W3.heap.size,0,none⟩) H.seen.length H.seen.length)) (w.heap.size+2) (.slice (some ⟨g2,0,none⟩) H.roots.length H.roots.length) H.roots):=row_ch (S:=[w.heap.size]) (own_below HO2.out HB.out) (one_ch _ _ _ _) (fun j hj=>by have:=(blk_lt HO2.out j hj).1;simp;omega)
 have HD24:Hid (g2<W3.heap.size):=(blk_lt HO02.out g2 (List.mem_singleton.2 rfl)).2
 have HO3:Hid (rows.Own (w14.setCell ⟨w.heap.size,7,none⟩ (.slice (some ⟨W3.heap.size,0,none⟩) H.seen.length H.seen.length)) (w.heap.size+2) (.slice (some ⟨g3,0,none⟩) H.mourned.length H.mourned.length) H.mourned):=row_ch (S:=[w.heap.size]) (own_below HO3.out HB.out) (one_ch _ _ _ _) (fun j hj=>by have:=(blk_lt HO3.out j hj).1;simp;omega)
 have HD34:Hid (g3<W3.heap.size):=(blk_lt HO03.out g3 (List.mem_singleton.2 rfl)).2
 clear HF HB z0 z1 z2 z3 z4 z5 z6 z7 z8 HS3 f7
 generalize w14.setCell ⟨w.heap.size,7,none⟩ (.slice (some ⟨W3.heap.size,0,none⟩) H.seen.length H.seen.length)=W4 at *
 generalize W3.heap.size=g4 at *
 have HO01:Hid _:=HO1.out
 have HO02:Hid _:=HO2.out
 have HO03:Hid _:=HO3.out
 have HO04:Hid _:=HO4.out
 obtain⟨⟨z0,z1,z2,z3,z4⟩,⟨z5,z6,z7,z8⟩,_⟩:=nine_cells HS4.out.n0
 obtain⟨⟨y0,y1,y2,y3,y4⟩,⟨y5,y6,y7,y8⟩,yf⟩:=nine_cells HS4.out.n1
 have f0:=yf 0
 have f1:=yf 1
 have f2:=yf 2
 have f3:=yf 3
 have f4:=yf 4
 have f5:=yf 5
 have f6:=yf 6
 have f7:=yf 7
 have f8:=yf 8
 clear yf
 have HB4:Hid _:=HS4.out.below
 have HN1:Hid _:=HS4.out.n1
 clear HS4
 go_wp2_with fail
 refine bodyPost_ret (res_heap rfl rfl (nine_sets HN1.out _ _ _ _ _ _ _ _ _)) rfl ⟨_,_,_,_,rfl,⟨⟨?_,?_,?_,?_⟩,?_⟩,nine_belows HB4.out (by omega) _ _ _ _ _ _ _ _ _⟩
 ·exact own_base (row_ch (S:=[w.heap.size+1]) HO1.out (nine_other _ _ _ _ _ _ _ _ _) (fun j hj=>by have:=(blk_lt HO1.out j hj).1;simp;omega)) (by omega)
 ·exact own_base (row_ch (S:=[w.heap.size+1]) HO2.out (nine_other _ _ _ _ _ _ _ _ _) (fun j hj=>by have:=(blk_lt HO2.out j hj).1;simp;omega)) (by omega)
 ·exact own_base (row_ch (S:=[w.heap.size+1]) HO3.out (nine_other _ _ _ _ _ _ _ _ _) (fun j hj=>by have:=(blk_lt HO3.out j hj).1;simp;omega)) (by omega)
 ·exact own_base (row_ch (S:=[w.heap.size+1]) HO4.out (nine_other _ _ _ _ _ _ _ _ _) (fun j hj=>by have:=(blk_lt HO4.out j hj).1;simp;omega)) (by omega)
 ·have q12:=HD12.out
  have q13:=HD13.out
  have q14:=HD14.out
  have q23:=HD23.out
  have q24:=HD24.out
  have q34:=HD34.out
  simp[hblk,blk,Value.ownBlock]
  omega
end Go.Proofs.YtemlagfaaibenaaGreat.hp
