/-
  Chapter 9 as the specification has it: a heap's own copy. Chapter 10 as the specification has it: Straightened. Chapter 9 as the program has it: the word of a note. Chapter 9 as the program has it: whether all notes end. Chapter 9 as the program has it: what is so of the rooms of a heap. A heap that was gone through: a heap's nine cells and its rooms' two. Chapter 9 as the program has it: a heap gone through, but for what is seen. Chapter 9 as the program has it: a heap gone through, HeapOk and Young.
-/
import Derived.Test.YtfbopegdldoocaaGreatM6
import Derived.Test.YtfbopegdldoocaaGreatCopied
import Derived.Test.YtfbopegdldoocaaGreatStrS
import Derived.Test.YtfbopegdldoocaaGreatM5
namespace Go.Proofs.YtfbopegdldoocaaGreat.hp
open Go.RowKit rows heads words walks
set_option maxRecDepth 100000
set_option linter.unusedVariables false
set_option linter.unusedSimpArgs false

/-- Three heaps in blocks behind one another: what came, what is answered, what is made. -/
structure CpS (w W : World) (H : Hp) (vr vo vm vs c2 c5 c6 c7 : Value) : Prop where
  n0 : Nine W w.heap.size 27 (.int .i64 H.half) (.int .i64 H.old) vr (.int .i64 H.side) (.int .i64 H.top) vo vm vs (.int .i64 H.seed)
  n1 : Nine W (w.heap.size + 1) 27 (.int .i64 0) (.int .i64 0) (.slice none 0 0) (.int .i64 0) (.int .i64 0) (.slice none 0 0) (.slice none 0 0) (.slice none 0 0) (.int .i64 0)
  n2 : Nine W (w.heap.size + 2) 27 (.int .i64 H.half) (.int .i64 H.old) c2 (.int .i64 H.side) (.int .i64 H.top) c5 c6 c7 (.int .i64 H.seed)
  below : Below w.heap.size w W
  size : w.heap.size + 3 ≤ W.heap.size
theorem CpS.grow {w W W' : World} {H : Hp} {vr vo vm vs c2 c5 c6 c7 : Value} (h : CpS w W H vr vo vm vs c2 c5 c6 c7) (hb : Below W.heap.size W W') : CpS w W' H vr vo vm vs c2 c5 c6 c7 := ⟨nine_below h.n0 hb, nine_below h.n1 hb, nine_below h.n2 hb, h.below.trans (hb.mono h.below.size), Nat.le_trans h.size hb.size⟩
theorem CpS.fields {w W : World} {H : Hp} {vr vo vm vs c2 c5 c6 c7 : Value} (h : CpS w W H vr vo vm vs c2 c5 c6 c7) {W' : World} {d2 d5 d6 d7 : Value} (hc : Ch [w.heap.size + 2] W W') (h2 : Nine W' (w.heap.size + 2) 27 (.int .i64 H.half) (.int .i64 H.old) d2 (.int .i64 H.side) (.int .i64 H.top) d5 d6 d7 (.int .i64 H.seed)) : CpS w W' H vr vo vm vs d2 d5 d6 d7 :=
  ⟨nine_ch h.n0 hc (by simp), nine_ch h.n1 hc (by simp), h2, h.below.trans (below_ch hc h.below.size (fun k hk => by simp at hk; omega)), Nat.le_trans h.size hc.size⟩
theorem own_set {W : World} {base b k : Nat} {v u : Value} {xs : List Int} (h : rows.Own W base v xs) (hb : b < base) : rows.Own (W.setCell ⟨b, k, none⟩ u) base v xs := row_ch (S := [b]) h (one_ch _ _ _ _) (fun j hj => by have := (blk_lt h j hj).1; simp; omega)
set_option maxHeartbeats 16000000 in
theorem l9Copy_any {w : World} {vr vo vm vs : Value} {H : Hp} (h : HpAt w vr vo vm vs H) (hs : hpSize H ≤ 1048576) :
    Calls Tryz.prog 23 #[hpv H vr vo vm vs] w fun e w' => ∃ g1 g2 g3 k1 k2 k3 s', e = .returned (hpv H (.slice (some ⟨g1, 0, none⟩) H.row.length k1) (.slice (some ⟨g2, 0, none⟩) H.roots.length k2) (.slice (some ⟨g3, 0, none⟩) H.mourned.length k3) s') ∧ OwnH w' w.heap.size (.slice (some ⟨g1, 0, none⟩) H.row.length k1) (.slice (some ⟨g2, 0, none⟩) H.roots.length k2) (.slice (some ⟨g3, 0, none⟩) H.mourned.length k3) s' H ∧ Below w.heap.size w w' := by
  obtain ⟨a1, c1, a2, c2, a3, c3, a4, c4, e1, e2, e3, e4⟩ := hpAt_slices h
  subst e1 e2 e3 e4
  have l1 : H.row.length ≤ 1048576 := by unfold hpSize at hs; omega
  have l2 : H.roots.length ≤ 1048576 := by unfold hpSize at hs; omega
  have l3 : H.mourned.length ≤ 1048576 := by unfold hpSize at hs; omega
  have l4 : H.seen.length ≤ 1048576 := by unfold hpSize at hs; omega
  have HH : Hid _ := h
  have B0 : Below w.heap.size w (w.alloc (hpb H (.slice a1 H.row.length c1) (.slice a2 H.roots.length c2) (.slice a3 H.mourned.length c3) (.slice a4 H.seen.length c4))) := (Below.refl _ _).alloc (Nat.le_refl _) _
  have B1 := B0.alloc B0.size (hpb ⟨0, 0, [], 0, 0, [], [], [], 0⟩ (.slice none 0 0) (.slice none 0 0) (.slice none 0 0) (.slice none 0 0))
  have T0 := nine_new w H (.slice a1 H.row.length c1) (.slice a2 H.roots.length c2) (.slice a3 H.mourned.length c3) (.slice a4 H.seen.length c4)
  have T0' := nine_below T0 ((Below.refl _ _).alloc (Nat.le_refl _) (hpb ⟨0, 0, [], 0, 0, [], [], [], 0⟩ (.slice none 0 0) (.slice none 0 0) (.slice none 0 0) (.slice none 0 0)))
  have T1 : Nine ((w.alloc (hpb H (.slice a1 H.row.length c1) (.slice a2 H.roots.length c2) (.slice a3 H.mourned.length c3) (.slice a4 H.seen.length c4))).alloc (hpb ⟨0, 0, [], 0, 0, [], [], [], 0⟩ (.slice none 0 0) (.slice none 0 0) (.slice none 0 0) (.slice none 0 0))) (w.heap.size + 1) 27 (.int .i64 0) (.int .i64 0) (.slice none 0 0) (.int .i64 0) (.int .i64 0) (.slice none 0 0) (.slice none 0 0) (.slice none 0 0) (.int .i64 0) := (congrArg (fun k => ((w.alloc (hpb H (.slice a1 H.row.length c1) (.slice a2 H.roots.length c2) (.slice a3 H.mourned.length c3) (.slice a4 H.seen.length c4))).alloc (hpb ⟨0, 0, [], 0, 0, [], [], [], 0⟩ (.slice none 0 0) (.slice none 0 0) (.slice none 0 0) (.slice none 0 0))).heap[k]?) (show w.heap.size + 1 = (w.alloc (hpb H (.slice a1 H.row.length c1) (.slice a2 H.roots.length c2) (.slice a3 H.mourned.length c3) (.slice a4 H.seen.length c4))).heap.size by simp)).trans (heap_alloc_new _ _)
  have HB1 : Hid _ := B1
  have HT0 : Hid _ := T0'
  have HT1 : Hid _ := T1
  have sX : w.heap.size + 2 = ((w.alloc (hpb H (.slice a1 H.row.length c1) (.slice a2 H.roots.length c2) (.slice a3 H.mourned.length c3) (.slice a4 H.seen.length c4))).alloc (hpb ⟨0, 0, [], 0, 0, [], [], [], 0⟩ (.slice none 0 0) (.slice none 0 0) (.slice none 0 0) (.slice none 0 0))).heap.size := by simp
  clear h B0 B1 T0 T0' T1 hs
  go_enter Tryz.func23, Tryz.ntmps23
  go_upto_region 1 with fail
  generalize hX : (w.alloc _).alloc _ = X at *
  have HsX : Hid _ := sX
  clear hX sX
  obtain ⟨⟨z0, z1, z2, z3, z4⟩, ⟨z5, z6, z7, z8⟩, _⟩ := nine_cells HT0.out
  go_upto_region 2 with fail
  have BX : Below X.heap.size X (X.alloc (hpb H (.slice a1 H.row.length c1) (.slice a2 H.roots.length c2) (.slice a3 H.mourned.length c3) (.slice a4 H.seen.length c4))) := (Below.refl _ _).alloc (Nat.le_refl _) _
  have HS0 : Hid (CpS w (X.alloc (hpb H (.slice a1 H.row.length c1) (.slice a2 H.roots.length c2) (.slice a3 H.mourned.length c3) (.slice a4 H.seen.length c4))) H (.slice a1 H.row.length c1) (.slice a2 H.roots.length c2) (.slice a3 H.mourned.length c3) (.slice a4 H.seen.length c4) (.slice a1 H.row.length c1) (.slice a2 H.roots.length c2) (.slice a3 H.mourned.length c3) (.slice a4 H.seen.length c4)) := ⟨nine_below HT0.out BX, nine_below HT1.out BX, by rw [HsX.out]; exact heap_alloc_new _ _, HB1.out.trans (BX.mono HB1.out.size), by have := HsX.out; simp; omega⟩
  clear BX z0 z1 z2 z3 z4 z5 z6 z7 z8 HT0 HT1 HB1
  have hXs : X.heap.size = w.heap.size + 2 := HsX.out.symm
  rw [hXs]
  generalize X.alloc (hpb H (.slice a1 H.row.length c1) (.slice a2 H.roots.length c2) (.slice a3 H.mourned.length c3) (.slice a4 H.seen.length c4)) = W at *
  clear hXs HsX
  have BA : Below W.heap.size W (W.alloc (.cells #[] 2)) := (Below.refl _ _).alloc (Nat.le_refl _) _
  obtain ⟨⟨z0, z1, z2, z3, z4⟩, ⟨z5, z6, z7, z8⟩, _⟩ := nine_cells (HS0.out.grow BA).n0
  have IN := intsAt_below HH.out.1 HS0.out.below
  clear BA
  go_upto_region 3 with (at_builtin; refine wpList_copied IN l1 rfl _ _ rfl (by simp [Act.eval]) rfl ?_; intro g1 k1 w11 hg hO hB; have HOA : Hid (rows.Own w11 W.heap.size (.slice (some ⟨g1, 0, none⟩) H.row.length k1) H.row) := hO; have HB : Hid _ := hB; obtain ⟨⟨y0, y1, y2, y3, y4⟩, ⟨y5, y6, y7, y8⟩, yf⟩ := nine_cells (HS0.out.grow hB).n2; have f2 := yf 2; clear hO hB yf z0 z1 z2 z3 z4 z5 z6 z7 z8 IN)
  have HS1 : Hid (CpS w (w11.setCell ⟨w.heap.size + 2, 2, none⟩ (.slice (some ⟨g1, 0, none⟩) H.row.length k1)) H (.slice a1 H.row.length c1) (.slice a2 H.roots.length c2) (.slice a3 H.mourned.length c3) (.slice a4 H.seen.length c4) (.slice (some ⟨g1, 0, none⟩) H.row.length k1) (.slice a2 H.roots.length c2) (.slice a3 H.mourned.length c3) (.slice a4 H.seen.length c4)) := (HS0.out.grow HB.out).fields (one_ch _ _ _ _) (nine_set2 (HS0.out.grow HB.out).n2 _)
  have HO1 : Hid (rows.Own (w11.setCell ⟨w.heap.size + 2, 2, none⟩ (.slice (some ⟨g1, 0, none⟩) H.row.length k1)) (w.heap.size + 3) (.slice (some ⟨g1, 0, none⟩) H.row.length k1) H.row) := own_set (own_base HOA.out HS0.out.size) (by omega)
  clear HOA HB hg y0 y1 y2 y3 y4 y5 y6 y7 y8 HS0 f2
  generalize w11.setCell ⟨w.heap.size + 2, 2, none⟩ (.slice (some ⟨g1, 0, none⟩) H.row.length k1) = V1 at *
  have HL1 : Hid (g1 < V1.heap.size) := (own_lt HO1.out g1 rfl).2
  have BA : Below V1.heap.size V1 (V1.alloc (.cells #[] 2)) := (Below.refl _ _).alloc (Nat.le_refl _) _
  obtain ⟨⟨z0, z1, z2, z3, z4⟩, ⟨z5, z6, z7, z8⟩, _⟩ := nine_cells (HS1.out.grow BA).n0
  have IN := intsAt_below HH.out.2.1 HS1.out.below
  clear BA
  go_upto_region 4 with (at_builtin; refine wpList_copied IN l2 rfl _ _ rfl (by simp [Act.eval]) rfl ?_; intro g2 k2 w12 hg hO hB; have HOA : Hid (rows.Own w12 V1.heap.size (.slice (some ⟨g2, 0, none⟩) H.roots.length k2) H.roots) := hO; have HB : Hid _ := hB; obtain ⟨⟨y0, y1, y2, y3, y4⟩, ⟨y5, y6, y7, y8⟩, yf⟩ := nine_cells (HS1.out.grow hB).n2; have f5 := yf 5; clear hO hB yf z0 z1 z2 z3 z4 z5 z6 z7 z8 IN)
  have HS2 : Hid (CpS w (w12.setCell ⟨w.heap.size + 2, 5, none⟩ (.slice (some ⟨g2, 0, none⟩) H.roots.length k2)) H (.slice a1 H.row.length c1) (.slice a2 H.roots.length c2) (.slice a3 H.mourned.length c3) (.slice a4 H.seen.length c4) (.slice (some ⟨g1, 0, none⟩) H.row.length k1) (.slice (some ⟨g2, 0, none⟩) H.roots.length k2) (.slice a3 H.mourned.length c3) (.slice a4 H.seen.length c4)) := (HS1.out.grow HB.out).fields (one_ch _ _ _ _) (nine_set5 (HS1.out.grow HB.out).n2 _)
  have HO2 : Hid (rows.Own (w12.setCell ⟨w.heap.size + 2, 5, none⟩ (.slice (some ⟨g2, 0, none⟩) H.roots.length k2)) (w.heap.size + 3) (.slice (some ⟨g2, 0, none⟩) H.roots.length k2) H.roots) := own_set (own_base HOA.out HS1.out.size) (by omega)
  have HO1 : Hid (rows.Own (w12.setCell ⟨w.heap.size + 2, 5, none⟩ (.slice (some ⟨g2, 0, none⟩) H.roots.length k2)) (w.heap.size + 3) (.slice (some ⟨g1, 0, none⟩) H.row.length k1) H.row) := own_set (own_below HO1.out HB.out) (by omega)
  have HD12 : Hid (g1 < g2) := Nat.lt_of_lt_of_le HL1.out hg
  clear HOA HB hg y0 y1 y2 y3 y4 y5 y6 y7 y8 HS1 f5
  generalize w12.setCell ⟨w.heap.size + 2, 5, none⟩ (.slice (some ⟨g2, 0, none⟩) H.roots.length k2) = V2 at *
  have HL1 : Hid (g1 < V2.heap.size) := (own_lt HO1.out g1 rfl).2
  have HL2 : Hid (g2 < V2.heap.size) := (own_lt HO2.out g2 rfl).2
  have BA : Below V2.heap.size V2 (V2.alloc (.cells #[] 2)) := (Below.refl _ _).alloc (Nat.le_refl _) _
  obtain ⟨⟨z0, z1, z2, z3, z4⟩, ⟨z5, z6, z7, z8⟩, _⟩ := nine_cells (HS2.out.grow BA).n0
  have IN := intsAt_below HH.out.2.2.1 HS2.out.below
  clear BA
  go_upto_region 5 with (at_builtin; refine wpList_copied IN l3 rfl _ _ rfl (by simp [Act.eval]) rfl ?_; intro g3 k3 w13 hg hO hB; have HOA : Hid (rows.Own w13 V2.heap.size (.slice (some ⟨g3, 0, none⟩) H.mourned.length k3) H.mourned) := hO; have HB : Hid _ := hB; obtain ⟨⟨y0, y1, y2, y3, y4⟩, ⟨y5, y6, y7, y8⟩, yf⟩ := nine_cells (HS2.out.grow hB).n2; have f6 := yf 6; clear hO hB yf z0 z1 z2 z3 z4 z5 z6 z7 z8 IN)
  have HS3 : Hid (CpS w (w13.setCell ⟨w.heap.size + 2, 6, none⟩ (.slice (some ⟨g3, 0, none⟩) H.mourned.length k3)) H (.slice a1 H.row.length c1) (.slice a2 H.roots.length c2) (.slice a3 H.mourned.length c3) (.slice a4 H.seen.length c4) (.slice (some ⟨g1, 0, none⟩) H.row.length k1) (.slice (some ⟨g2, 0, none⟩) H.roots.length k2) (.slice (some ⟨g3, 0, none⟩) H.mourned.length k3) (.slice a4 H.seen.length c4)) := (HS2.out.grow HB.out).fields (one_ch _ _ _ _) (nine_set6 (HS2.out.grow HB.out).n2 _)
  have HO3 : Hid (rows.Own (w13.setCell ⟨w.heap.size + 2, 6, none⟩ (.slice (some ⟨g3, 0, none⟩) H.mourned.length k3)) (w.heap.size + 3) (.slice (some ⟨g3, 0, none⟩) H.mourned.length k3) H.mourned) := own_set (own_base HOA.out HS2.out.size) (by omega)
  have HO1 : Hid (rows.Own (w13.setCell ⟨w.heap.size + 2, 6, none⟩ (.slice (some ⟨g3, 0, none⟩) H.mourned.length k3)) (w.heap.size + 3) (.slice (some ⟨g1, 0, none⟩) H.row.length k1) H.row) := own_set (own_below HO1.out HB.out) (by omega)
  have HD13 : Hid (g1 < g3) := Nat.lt_of_lt_of_le HL1.out hg
  have HO2 : Hid (rows.Own (w13.setCell ⟨w.heap.size + 2, 6, none⟩ (.slice (some ⟨g3, 0, none⟩) H.mourned.length k3)) (w.heap.size + 3) (.slice (some ⟨g2, 0, none⟩) H.roots.length k2) H.roots) := own_set (own_below HO2.out HB.out) (by omega)
  have HD23 : Hid (g2 < g3) := Nat.lt_of_lt_of_le HL2.out hg
  clear HOA HB hg y0 y1 y2 y3 y4 y5 y6 y7 y8 HS2 f6
  generalize w13.setCell ⟨w.heap.size + 2, 6, none⟩ (.slice (some ⟨g3, 0, none⟩) H.mourned.length k3) = V3 at *
  have HL1 : Hid (g1 < V3.heap.size) := (own_lt HO1.out g1 rfl).2
  have HL2 : Hid (g2 < V3.heap.size) := (own_lt HO2.out g2 rfl).2
  have HL3 : Hid (g3 < V3.heap.size) := (own_lt HO3.out g3 rfl).2
  have BA : Below V3.heap.size V3 (V3.alloc (.cells #[] 2)) := (Below.refl _ _).alloc (Nat.le_refl _) _
  obtain ⟨⟨z0, z1, z2, z3, z4⟩, ⟨z5, z6, z7, z8⟩, _⟩ := nine_cells (HS3.out.grow BA).n0
  have IN := intsAt_below HH.out.2.2.2 HS3.out.below
  clear BA
  go_upto_region 6 with (at_builtin; refine wpList_copied IN l4 rfl _ _ rfl (by simp [Act.eval]) rfl ?_; intro g4 k4 w14 hg hO hB; have HOA : Hid (rows.Own w14 V3.heap.size (.slice (some ⟨g4, 0, none⟩) H.seen.length k4) H.seen) := hO; have HB : Hid _ := hB; obtain ⟨⟨y0, y1, y2, y3, y4⟩, ⟨y5, y6, y7, y8⟩, yf⟩ := nine_cells (HS3.out.grow hB).n2; have f7 := yf 7; clear hO hB yf z0 z1 z2 z3 z4 z5 z6 z7 z8 IN)
  have HS4 : Hid (CpS w (w14.setCell ⟨w.heap.size + 2, 7, none⟩ (.slice (some ⟨g4, 0, none⟩) H.seen.length k4)) H (.slice a1 H.row.length c1) (.slice a2 H.roots.length c2) (.slice a3 H.mourned.length c3) (.slice a4 H.seen.length c4) (.slice (some ⟨g1, 0, none⟩) H.row.length k1) (.slice (some ⟨g2, 0, none⟩) H.roots.length k2) (.slice (some ⟨g3, 0, none⟩) H.mourned.length k3) (.slice (some ⟨g4, 0, none⟩) H.seen.length k4)) := (HS3.out.grow HB.out).fields (one_ch _ _ _ _) (nine_set7 (HS3.out.grow HB.out).n2 _)
  have HO4 : Hid (rows.Own (w14.setCell ⟨w.heap.size + 2, 7, none⟩ (.slice (some ⟨g4, 0, none⟩) H.seen.length k4)) (w.heap.size + 3) (.slice (some ⟨g4, 0, none⟩) H.seen.length k4) H.seen) := own_set (own_base HOA.out HS3.out.size) (by omega)
  have HO1 : Hid (rows.Own (w14.setCell ⟨w.heap.size + 2, 7, none⟩ (.slice (some ⟨g4, 0, none⟩) H.seen.length k4)) (w.heap.size + 3) (.slice (some ⟨g1, 0, none⟩) H.row.length k1) H.row) := own_set (own_below HO1.out HB.out) (by omega)
  have HD14 : Hid (g1 < g4) := Nat.lt_of_lt_of_le HL1.out hg
  have HO2 : Hid (rows.Own (w14.setCell ⟨w.heap.size + 2, 7, none⟩ (.slice (some ⟨g4, 0, none⟩) H.seen.length k4)) (w.heap.size + 3) (.slice (some ⟨g2, 0, none⟩) H.roots.length k2) H.roots) := own_set (own_below HO2.out HB.out) (by omega)
  have HD24 : Hid (g2 < g4) := Nat.lt_of_lt_of_le HL2.out hg
  have HO3 : Hid (rows.Own (w14.setCell ⟨w.heap.size + 2, 7, none⟩ (.slice (some ⟨g4, 0, none⟩) H.seen.length k4)) (w.heap.size + 3) (.slice (some ⟨g3, 0, none⟩) H.mourned.length k3) H.mourned) := own_set (own_below HO3.out HB.out) (by omega)
  have HD34 : Hid (g3 < g4) := Nat.lt_of_lt_of_le HL3.out hg
  clear HOA HB hg y0 y1 y2 y3 y4 y5 y6 y7 y8 HS3 f7
  generalize w14.setCell ⟨w.heap.size + 2, 7, none⟩ (.slice (some ⟨g4, 0, none⟩) H.seen.length k4) = V4 at *
  have HL1 : Hid (g1 < V4.heap.size) := (own_lt HO1.out g1 rfl).2
  have HL2 : Hid (g2 < V4.heap.size) := (own_lt HO2.out g2 rfl).2
  have HL3 : Hid (g3 < V4.heap.size) := (own_lt HO3.out g3 rfl).2
  have HL4 : Hid (g4 < V4.heap.size) := (own_lt HO4.out g4 rfl).2
  obtain ⟨⟨z0, z1, z2, z3, z4⟩, ⟨z5, z6, z7, z8⟩, _⟩ := nine_cells HS4.out.n2
  obtain ⟨⟨y0, y1, y2, y3, y4⟩, ⟨y5, y6, y7, y8⟩, yf⟩ := nine_cells HS4.out.n1
  have f0 := yf 0
  have f1 := yf 1
  have f2 := yf 2
  have f3 := yf 3
  have f4 := yf 4
  have f5 := yf 5
  have f6 := yf 6
  have f7 := yf 7
  have f8 := yf 8
  clear yf
  have HB4 : Hid _ := HS4.out.below
  have HN1 : Hid _ := HS4.out.n1
  clear HS4
  go_wp2_with fail
  refine bodyPost_ret (res_heap rfl rfl (nine_sets HN1.out _ _ _ _ _ _ _ _ _)) rfl ⟨_, _, _, _, _, _, _, rfl, ⟨⟨?_, ?_, ?_, ?_⟩, ?_⟩, nine_belows HB4.out (by omega) _ _ _ _ _ _ _ _ _⟩
  · exact own_base (row_ch (S := [w.heap.size + 1]) HO1.out (nine_other _ _ _ _ _ _ _ _ _) (fun j hj => by have := (blk_lt HO1.out j hj).1; simp; omega)) (by omega)
  · exact own_base (row_ch (S := [w.heap.size + 1]) HO2.out (nine_other _ _ _ _ _ _ _ _ _) (fun j hj => by have := (blk_lt HO2.out j hj).1; simp; omega)) (by omega)
  · exact own_base (row_ch (S := [w.heap.size + 1]) HO3.out (nine_other _ _ _ _ _ _ _ _ _) (fun j hj => by have := (blk_lt HO3.out j hj).1; simp; omega)) (by omega)
  · exact own_base (row_ch (S := [w.heap.size + 1]) HO4.out (nine_other _ _ _ _ _ _ _ _ _) (fun j hj => by have := (blk_lt HO4.out j hj).1; simp; omega)) (by omega)
  · have q12 := HD12.out
    have q13 := HD13.out
    have q14 := HD14.out
    have q23 := HD23.out
    have q24 := HD24.out
    have q34 := HD34.out
    simp [hblk, blk, Value.ownBlock]
    omega
end Go.Proofs.YtfbopegdldoocaaGreat.hp
namespace Go.Proofs.YtfbopegdldoocaaGreat.hp
open Go.RowKit rows heads words walks
set_option maxRecDepth 100000
set_option linter.unusedVariables false
set_option linter.unusedSimpArgs false

/-- What Straightened answers. -/
def strOk (H : Hp) : Hp := if heapOk H = true then strF H ((placesR H).getD []) else hp0
theorem own0 (w : World) (b : Nat) : OwnH w b (.slice none 0 0) (.slice none 0 0) (.slice none 0 0) (.slice none 0 0) hp0 :=
  ⟨⟨World.ownsRow_nil _ _ _ _, World.ownsRow_nil _ _ _ _, World.ownsRow_nil _ _ _ _, World.ownsRow_nil _ _ _ _⟩, by simp [hblk, blk, Value.ownBlock]⟩
theorem strOk_size {H : Hp} (hs : hpSize H ≤ 1048576) : hpSize (strOk H) ≤ 1048576 := by
  unfold strOk
  split
  · rename_i h
    obtain ⟨ps, R⟩ := rt_of (ok_right h).1
    rw [R.some', Option.getD_some]
    have hA := apart_of R.some'
    have hD := dif_row hA (fun p hp => hp : ∀ p ∈ objL H ps, p ∈ objL H ps) _ (Nat.le_refl _)
    rw [List.take_length] at hD
    obtain ⟨hp', hup, hN, hnb⟩ := sim_places R.some' (fun p hp => hp : ∀ p ∈ objL H ps, p ∈ objL H ps) (H' := strH H ps) hD rfl rfl rfl rfl rfl (by simp [strH]) (by simp [strH])
    obtain ⟨_, _, r, u, _, hu, _, e⟩ := places_facts hp'
    have hl := (places_plc hp').2
    rw [e, List.length_append] at hl
    have hsn : (seenL (strH H ps)).length ≤ 500 := by
      unfold seenL
      rw [hu, Option.getD_some]
      exact Nat.le_trans (List.length_filter_le _ _) (by omega)
    have hrl := R.len
    have hdl := hD.len
    have N := (places_facts R.some').1
    have hr6 := N.roots
    have hm40 := N.mourned
    show (strRow H (objL H ps)).length + (H.roots.map (fol H)).length + (H.mourned.map (fol H)).length + (seenL (strH H ps)).length ≤ _
    rw [List.length_map, List.length_map]
    omega
  · exact Nat.zero_le _
/-- A heap of the call's own, put into a block of its own. -/
theorem ss_new {V0 : World} {b g1 g2 g3 k1 k2 k3 : Nat} {s : Value} {H : Hp} (h : OwnH V0 b (.slice (some ⟨g1, 0, none⟩) H.row.length k1) (.slice (some ⟨g2, 0, none⟩) H.roots.length k2) (.slice (some ⟨g3, 0, none⟩) H.mourned.length k3) s H) :
    Dst (V0.alloc (hpb H (.slice (some ⟨g1, 0, none⟩) H.row.length k1) (.slice (some ⟨g2, 0, none⟩) H.roots.length k2) (.slice (some ⟨g3, 0, none⟩) H.mourned.length k3) s)) V0.heap.size b g1 g2 g3 s ∧
    SS (V0.alloc (hpb H (.slice (some ⟨g1, 0, none⟩) H.row.length k1) (.slice (some ⟨g2, 0, none⟩) H.roots.length k2) (.slice (some ⟨g3, 0, none⟩) H.mourned.length k3) s)) (V0.alloc (hpb H (.slice (some ⟨g1, 0, none⟩) H.row.length k1) (.slice (some ⟨g2, 0, none⟩) H.roots.length k2) (.slice (some ⟨g3, 0, none⟩) H.mourned.length k3) s)) V0.heap.size b g1 g2 g3 k1 k2 k3 H.row.length H.roots.length H.mourned.length s (.slice none 0 0) H [] H.row H.roots H.mourned := by
  have hB : Below V0.heap.size V0 (V0.alloc (hpb H (.slice (some ⟨g1, 0, none⟩) H.row.length k1) (.slice (some ⟨g2, 0, none⟩) H.roots.length k2) (.slice (some ⟨g3, 0, none⟩) H.mourned.length k3) s)) := (Below.refl _ _).alloc (Nat.le_refl _) _
  have h' := ownH_below h hB
  have hn := h.2
  unfold hblk at hn
  rw [blk_of, blk_of, blk_of] at hn
  have l1 := (blk_lt h.1.1 g1 (by rw [blk_of]; simp)).2
  have l2 := (blk_lt h.1.2.1 g2 (by rw [blk_of]; simp)).2
  have l3 := (blk_lt h.1.2.2.1 g3 (by rw [blk_of]; simp)).2
  have l4 := blk_lt h.1.2.2.2
  simp at hn
  obtain ⟨⟨n1, n2, n3⟩, ⟨n4, n5⟩, n6, n7⟩ := hn
  refine ⟨⟨n1, n2, n4, by omega, by omega, by omega, fun k hk => ⟨fun e => n3 (e ▸ hk), fun e => n5 (e ▸ hk), fun e => n6 (e ▸ hk), fun e => by have := (l4 k hk).2; omega⟩, by simp; omega⟩, ⟨nine_new _ _ _ _ _ _, h'.1.1, h'.1.2.1, h'.1.2.2.1, h'.1.2.2.2, World.ownsRow_nil _ _ _ _, Ch.refl _ _, rfl, rfl, rfl⟩⟩
set_option maxHeartbeats 16000000 in
theorem sStraightened_any {w : World} {vr vo vm vs : Value} {H : Hp} (h : HpAt w vr vo vm vs H) (hs : hpSize H ≤ 1048576) :
    Calls Tryz.prog 13 #[hpv H vr vo vm vs] w fun e w' => ∃ (o' r' m' s' : Value), e = .returned (hpv (strOk H) o' r' m' s') ∧ OwnH w' w.heap.size o' r' m' s' (strOk H) ∧ Below w.heap.size w w' := by
  obtain ⟨a1, c1, a2, c2, a3, c3, a4, c4, e1, e2, e3, e4⟩ := hpAt_slices h
  subst e1 e2 e3 e4
  have B0 : Below w.heap.size w (w.alloc (hpb H (.slice a1 H.row.length c1) (.slice a2 H.roots.length c2) (.slice a3 H.mourned.length c3) (.slice a4 H.seen.length c4))) := (Below.refl _ _).alloc (Nat.le_refl _) _
  have B1 := B0.alloc B0.size (hpb ⟨0, 0, [], 0, 0, [], [], [], 0⟩ (.slice none 0 0) (.slice none 0 0) (.slice none 0 0) (.slice none 0 0))
  have T0 := nine_new w H (.slice a1 H.row.length c1) (.slice a2 H.roots.length c2) (.slice a3 H.mourned.length c3) (.slice a4 H.seen.length c4)
  have T0' := nine_below T0 ((Below.refl _ _).alloc (Nat.le_refl _) (hpb ⟨0, 0, [], 0, 0, [], [], [], 0⟩ (.slice none 0 0) (.slice none 0 0) (.slice none 0 0) (.slice none 0 0)))
  have T1 : Nine ((w.alloc (hpb H (.slice a1 H.row.length c1) (.slice a2 H.roots.length c2) (.slice a3 H.mourned.length c3) (.slice a4 H.seen.length c4))).alloc (hpb ⟨0, 0, [], 0, 0, [], [], [], 0⟩ (.slice none 0 0) (.slice none 0 0) (.slice none 0 0) (.slice none 0 0))) (w.heap.size + 1) 27 (.int .i64 0) (.int .i64 0) (.slice none 0 0) (.int .i64 0) (.int .i64 0) (.slice none 0 0) (.slice none 0 0) (.slice none 0 0) (.int .i64 0) := (congrArg (fun k => ((w.alloc (hpb H (.slice a1 H.row.length c1) (.slice a2 H.roots.length c2) (.slice a3 H.mourned.length c3) (.slice a4 H.seen.length c4))).alloc (hpb ⟨0, 0, [], 0, 0, [], [], [], 0⟩ (.slice none 0 0) (.slice none 0 0) (.slice none 0 0) (.slice none 0 0))).heap[k]?) (show w.heap.size + 1 = (w.alloc (hpb H (.slice a1 H.row.length c1) (.slice a2 H.roots.length c2) (.slice a3 H.mourned.length c3) (.slice a4 H.seen.length c4))).heap.size by simp)).trans (heap_alloc_new _ _)
  have sX : w.heap.size + 2 = ((w.alloc (hpb H (.slice a1 H.row.length c1) (.slice a2 H.roots.length c2) (.slice a3 H.mourned.length c3) (.slice a4 H.seen.length c4))).alloc (hpb ⟨0, 0, [], 0, 0, [], [], [], 0⟩ (.slice none 0 0) (.slice none 0 0) (.slice none 0 0) (.slice none 0 0))).heap.size := by simp
  have HHX := hpAt_below h B1
  have HB1 : Hid _ := B1
  have HT0 : Hid _ := T0'
  have HT1 : Hid _ := T1
  have HSZ : Hid _ := hs
  obtain ⟨R, hR⟩ : ∃ R, strOk H = R := ⟨_, rfl⟩
  rw [hR]
  have HR : Hid _ := hR
  clear h B0 B1 T0 T0' T1 hR
  go_enter Tryz.func13, Tryz.ntmps13
  go_upto_region 1 with fail
  generalize hX : (w.alloc _).alloc _ = X at *
  have HsX : Hid _ := sX
  clear hX sX
  have HK := sHeapOk_any HHX hs
  have HH : Hid _ := HHX
  clear HHX hs
  obtain ⟨⟨z0, z1, z2, z3, z4⟩, ⟨z5, z6, z7, z8⟩, _⟩ := nine_cells HT0.out
  cases dr : heapOk H
  · rw [dr] at HK
    have e : strOk H = hp0 := by unfold strOk; rw [if_neg (by rw [dr]; decide)]
    obtain rfl : hp0 = R := e.symm.trans HR.out
    clear dr e HR
    go_upto_region 2 with (go_at_call 22; refine HK.mono ?_; clear HK z0 z1 z2 z3 z4 z5 z6 z7 z8; rintro e w2 ⟨rfl, b2⟩; have HBE : Hid _ := HB1.out.trans (b2.mono HB1.out.size); have HN1 : Hid _ := nine_below HT1.out b2; clear b2)
    obtain ⟨⟨y0, y1, y2, y3, y4⟩, ⟨y5, y6, y7, y8⟩, yf⟩ := nine_cells HN1.out
    have f0 := yf 0
    have f1 := yf 1
    have f2 := yf 2
    have f3 := yf 3
    have f4 := yf 4
    have f5 := yf 5
    have f6 := yf 6
    have f7 := yf 7
    have f8 := yf 8
    clear yf
    go_wp2_with fail
    exact bodyPost_ret (res_heap rfl rfl (nine_sets HN1.out _ _ _ _ _ _ _ _ _)) rfl ⟨_, _, _, _, rfl, own0 _ _, nine_belows HBE.out (by omega) _ _ _ _ _ _ _ _ _⟩
  · rw [dr] at HK
    obtain ⟨ps, RR⟩ := rt_of (ok_right dr).1
    have e : strOk H = strF H ps := by unfold strOk; rw [if_pos dr, RR.some', Option.getD_some]
    obtain rfl : strF H ps = R := e.symm.trans HR.out
    have HRR : Hid _ := RR
    have HCP : Hid (∀ V, HpAt V (.slice a1 H.row.length c1) (.slice a2 H.roots.length c2) (.slice a3 H.mourned.length c3) (.slice a4 H.seen.length c4) H → _) := fun V hV => l9Copy_any hV HSZ.out
    clear dr e RR HR
    go_upto_region 4 with (first
      | (go_at_call 22; refine HK.mono ?_; clear HK z0 z1 z2 z3 z4 z5 z6 z7 z8; rintro e w2 ⟨rfl, b2⟩; have HB2 : Hid _ := HB1.out.trans (b2.mono HB1.out.size); have HX2 : Hid _ := b2.size; obtain ⟨⟨z0, z1, z2, z3, z4⟩, ⟨z5, z6, z7, z8⟩, _⟩ := nine_cells (nine_below HT0.out b2); have HN1 : Hid _ := nine_below HT1.out b2; have CP := HCP.out w2 (hpAt_below HH.out b2); clear b2 HCP)
      | (go_at_call 23; refine CP.mono ?_; clear CP z0 z1 z2 z3 z4 z5 z6 z7 z8; rintro e w3 ⟨g1, g2, g3, k1, k2, k3, s', rfl, O3, b3⟩; have HO3 : Hid _ := O3; have HB3 : Hid _ := HB2.out.trans (b3.mono HB2.out.size); have HX3 : Hid _ := b3.size; have HN3 : Hid _ := nine_below HN1.out b3; obtain ⟨sa, sn, sc, rfl⟩ := ints_slice (own_ints O3.1.2.2.2); clear O3 b3))
    have SN := ss_new HO3.out
    have BV : Below w3.heap.size w3 (w3.alloc (hpb H (.slice (some ⟨g1, 0, none⟩) H.row.length k1) (.slice (some ⟨g2, 0, none⟩) H.roots.length k2) (.slice (some ⟨g3, 0, none⟩) H.mourned.length k3) (.slice sa sn sc))) := (Below.refl _ _).alloc (Nat.le_refl _) _
    have ST := l10Straighten_any HRR.out SN.1 SN.2 (Nat.le_trans HX3.out BV.size)
    have HG : Hid _ := ownH_lt HO3.out
    have HN4 : Hid _ := nine_below HN3.out BV
    have HB4 : Hid _ := HB3.out.trans (BV.mono HB3.out.size)
    have HV4 : Hid _ := BV.size
    clear SN BV HO3 HN3 HN1
    generalize w3.alloc (hpb H (.slice (some ⟨g1, 0, none⟩) H.row.length k1) (.slice (some ⟨g2, 0, none⟩) H.roots.length k2) (.slice (some ⟨g3, 0, none⟩) H.mourned.length k3) (.slice sa sn sc)) = V at *
    have q1 := (HG.out g1 (in_hblk.1 _ (by rw [blk_of]; simp))).1
    have q2 := (HG.out g2 (in_hblk.2.1 _ (by rw [blk_of]; simp))).1
    have q3 := (HG.out g3 (in_hblk.2.2.1 _ (by rw [blk_of]; simp))).1
    have q4 := HX3.out
    have q5 := HX2.out
    have q6 := HsX.out
    have HLE : Hid (∀ k ∈ [w3.heap.size, g1, g2, g3], w.heap.size + 2 ≤ k) := by
      intro k hk
      simp at hk
      omega
    clear q1 q2 q3 q4 q5 q6
    go_upto_region 5 with (go_at_call 24; refine ST.mono ?_; clear ST; rintro e w5 ⟨u, rfl, N5, O5, C5⟩; have HN5 : Hid _ := N5; have HO5 : Hid _ := O5; have HC5 : Hid _ := C5; obtain ⟨ua, un, uc, rfl⟩ := ints_slice (own_ints O5.1.2.2.2); clear N5 O5 C5)
    obtain ⟨⟨z0, z1, z2, z3, z4⟩, ⟨z5, z6, z7, z8⟩, _⟩ := nine_cells HN5.out
    have HN6 : Hid _ := nine_ch HN4.out HC5.out (fun hm => by have := HLE.out _ hm; omega)
    obtain ⟨⟨y0, y1, y2, y3, y4⟩, ⟨y5, y6, y7, y8⟩, yf⟩ := nine_cells HN6.out
    have f0 := yf 0
    have f1 := yf 1
    have f2 := yf 2
    have f3 := yf 3
    have f4 := yf 4
    have f5 := yf 5
    have f6 := yf 6
    have f7 := yf 7
    have f8 := yf 8
    clear yf
    have HB5 : Hid _ := HB4.out.trans (below_ch HC5.out HB4.out.size (fun k hk => by have := HLE.out k hk; omega))
    have HX4 : Hid (w.heap.size + 2 ≤ w2.heap.size) := by show _ ≤ _; have := HX2.out; have := HsX.out; omega
    go_wp2_with fail
    refine bodyPost_ret (res_heap rfl rfl (nine_sets HN6.out _ _ _ _ _ _ _ _ _)) rfl ⟨_, _, _, _, rfl, ?_, nine_belows HB5.out (by omega) _ _ _ _ _ _ _ _ _⟩
    have hx4 := HX4.out
    have H5 := HO5.out
    have on : ∀ {v : Value} {xs : List Int}, rows.Own w5 w2.heap.size v xs → ∀ {W : World}, Ch [w.heap.size + 1] w5 W → rows.Own W w.heap.size v xs := fun {v xs} ho {W} hc => own_base (row_ch ho hc (fun j hj => by have := (blk_lt ho j hj).1; simp; omega)) (by omega)
    exact ⟨⟨on H5.1.1 (nine_other _ _ _ _ _ _ _ _ _), on H5.1.2.1 (nine_other _ _ _ _ _ _ _ _ _), on H5.1.2.2.1 (nine_other _ _ _ _ _ _ _ _ _), on H5.1.2.2.2 (nine_other _ _ _ _ _ _ _ _ _)⟩, H5.2⟩
end Go.Proofs.YtfbopegdldoocaaGreat.hp
namespace Go.Proofs.YtfbopegdldoocaaGreat.hp
open Go.RowKit rows heads words walks
set_option maxRecDepth 100000
set_option linter.unusedVariables false
set_option linter.unusedSimpArgs false

set_option maxHeartbeats 4000000 in
theorem note_any {w : World} {s f c h : Int} {p m : Bool} {sa : Option Addr} {sn sc : Nat} {xs : List Int} (hx : 0 < xs.length)
    (hS : ∀ V, Below w.heap.size w V → Calls Tryz.prog 29 #[cv s f c h p m (.slice sa sn sc)] V fun e w' => ∃ ua un uc, e = .returned (.slice ua un uc) ∧ IntsAt w' (.slice ua un uc) xs ∧ Below V.heap.size V w') :
    Calls Tryz.prog 63 #[cv s f c h p m (.slice sa sn sc)] w fun e w' => e = .returned (.int .i64 (xs.getD 0 0)) ∧ Below w.heap.size w w' := by
  obtain ⟨y, hy⟩ : ∃ y, xs.getD 0 0 = y := ⟨_, rfl⟩
  rw [hy]
  have HYY : Hid _ := hy
  clear hy
  have B0 : Below w.heap.size w (w.alloc (cb s f c h p m (.slice sa sn sc))) := (Below.refl _ _).alloc (Nat.le_refl _) _
  have HB0 : Hid _ := B0
  have SC := hS _ B0
  clear hS B0
  go_enter Tryz.func63, Tryz.ntmps63
  go_wp2_with (go_at_call 29; refine SC.mono ?_; clear SC; rintro e w3 ⟨ua, un, uc, rfl, i3, b3⟩; have HB3 : Hid _ := HB0.out.trans (b3.mono HB0.out.size); obtain ⟨b, off, ea, _, x0⟩ := ints_cellI i3 hx; subst ea; obtain ⟨a', c', e', l1, l2, _, _⟩ := i3; injection e' with e1 e2 e3; subst e1 e2 e3; rw [HYY.out] at x0; have x1 := x0; rw [Nat.add_zero] at x1; have hx' : (0 : Int) < (xs.length : Int) := (by omega); clear b3)
  go_ret
  exact ⟨rfl, HB3.out⟩
end Go.Proofs.YtfbopegdldoocaaGreat.hp
namespace Go.Proofs.YtfbopegdldoocaaGreat.hp
open Go.RowKit rows heads words walks Go.Maps
set_option maxRecDepth 100000
set_option linter.unusedVariables false
set_option linter.unusedSimpArgs false

theorem lawK : Keyed Tryz.prog 2 := int_keyed Tryz.underlying2
theorem zeroInt (w : World) : (zeroValue 3).run Tryz.prog w = .ok (.int .i64 0) w := by kernel_rfl
/-- How many entries a map has. -/
def mapLen (w : World) (b : Nat) : Nat := match w.heap[b]? with | some (.map es _) => es.size | _ => 0
theorem mapLen_own {w : World} {k : TypeId} {R : Value → Option (DataW Unit × List MemPlace)} {b n : Nat} {D : DataW Unit} (h : w.ownsMap Tryz.prog k R b n D) : mapLen w b = Maps.size D := by
  obtain ⟨es, clock, hb, F, hs, rfl⟩ := h
  simp [mapLen, hb, Maps.size, length_sorted]
theorem grownBelH {w w' : World} (h : Below w.heap.size w w') (row : Option Nat) : w.grownBy w' row := ⟨h.os, h.tape, h.output, h.size, fun k hk _ => h.block k hk⟩
theorem map_below {w w' : World} {k : TypeId} {R : Value → Option (DataW Unit × List MemPlace)} {b n : Nat} {D : DataW Unit} (h : w.ownsMap Tryz.prog k R b n D) (hb : Below w.heap.size w w') : w'.ownsMap Tryz.prog k R b n D := World.ownsMap.kept h (grownBelH hb none) (by simp)
theorem map_pdSet {w : World} {k : TypeId} {R : Value → Option (DataW Unit × List MemPlace)} {b n : Nat} {D : DataW Unit} (h : w.ownsMap Tryz.prog k R b n D) {q : Nat} (hq : b ≠ q) (d : Pd) : (pdSet w q d).ownsMap Tryz.prog k R b n D :=
  World.ownsMap.setCell (World.ownsMap.setCell (World.ownsMap.setCell (World.ownsMap.setCell (World.ownsMap.setCell (World.ownsMap.setCell (World.ownsMap.setCell (World.ownsMap.setCell h hq _) hq _) hq _) hq _) hq _) hq _) hq _) hq _
theorem mapLen_pdSet {w : World} {b q : Nat} (hq : b ≠ q) (d : Pd) : mapLen (pdSet w q d) b = mapLen w b := by
  have e : (pdSet w q d).heap[b]? = w.heap[b]? := by
    unfold pdSet
    iterate 8 rw [Below.heap_setCell _ _ _ _ hq]
  unfold mapLen
  rw [e]
/-- What the notes say, of chunks and of places. -/
structure NoteP (ds : List Pd) (sl : Pd → List Int) (nt : Int → Bool) (nx : Int → Int) : Prop where
  place : ∀ i, i < ds.length → I64 (ds.getD i pdD).pl
  isNote : ∀ i, i < ds.length → ((ds.getD i pdD).f == 7) = nt (ds.getD i pdD).pl
  some' : ∀ i, i < ds.length → (ds.getD i pdD).f = 7 → 0 < (sl (ds.getD i pdD)).length
  next : ∀ i, i < ds.length → (ds.getD i pdD).f = 7 → nx (ds.getD i pdD).pl = av ((sl (ds.getD i pdD)).getD 0 0)
  led : ∀ i, i < ds.length → (ds.getD i pdD).f = 7 → ledB ds ((sl (ds.getD i pdD)).getD 0 0) = true
theorem getD_num {xs : List Int} (h : AllI xs) (hx : 0 < xs.length) : I64 (xs.getD 0 0) := by
  refine h _ ?_
  rw [List.getD_eq_getElem?_getD, List.getElem?_eq_getElem hx]
  exact List.getElem_mem hx
set_option maxHeartbeats 16000000 in
theorem notesEnd_any {w : World} {up : Int} {v : Value} {ds : List Pd} {sl : Pd → List Int} {nt : Int → Bool} {nx : Int → Int} {R : Bool} (h : PdsAt w v ds) (hs : SlicesP ds) (hr : RiseP ds) (hl : ds.length ≤ 1048576) (hS : SlotsP w ds sl) (hN : NoteP ds sl nt nx)
    (hR : R = true ↔ ∀ i, i < ds.length → Fins nt nx (ds.getD i pdD).pl) :
    Calls Tryz.prog 60 #[rmv up v] w fun e w' => e = .returned (.bool R) ∧ Below w.heap.size w w' := by
  have hmm := @run_makeMap Tryz.prog
  obtain ⟨a, cap, rfl⟩ := pds_slice h
  have HP : Hid _ := h
  have HSL : Hid _ := hs
  have HR : Hid _ := hR
  have B0 : Below w.heap.size w (w.alloc (rmb up (.slice a ds.length cap))) := (Below.refl _ _).alloc (Nat.le_refl _) _
  have HALL : Hid (∀ V, Below (w.alloc (rmb up (.slice a ds.length cap))).heap.size (w.alloc (rmb up (.slice a ds.length cap))) V → (V.cell? ⟨w.heap.size, 0, none⟩ = some (.int .i64 up) ∧ V.cell? ⟨w.heap.size, 1, none⟩ = some (.slice a ds.length cap)) ∧ Below w.heap.size w V) := by
    intro V hV
    have q0 : V.heap[w.heap.size]? = some (rmb up (.slice a ds.length cap)) := (hV.block _ (by simp)).trans (heap_alloc_new w _)
    exact ⟨(rmb_cells q0).1, B0.trans (hV.mono B0.size)⟩
  have HLB : Hid (∀ V, Below w.heap.size w V → ∀ x, I64 x → Calls Tryz.prog 50 #[rmv up (.slice a ds.length cap), .int .i64 x] V fun e w' => (ledB ds x = false → e = .returned (.tuple #[pdv pdD, .bool false])) ∧ (ledB ds x = true → ∃ i, i < ds.length ∧ (ds.getD i pdD).pl = av x ∧ e = .returned (.tuple #[pdv (ds.getD i pdD), .bool true])) ∧ Below V.heap.size V w') := fun V hV x hx => ledBy_any (pdsAt_below HP.out hV) hs hr hl x hx.1 hx.2
  have HSP : Hid _ := hS
  have HNP : Hid _ := hN
  obtain ⟨L, hL⟩ : ∃ L, ds.map (fun d => d.pl) = L := ⟨_, rfl⟩
  have HLm : Hid (∀ i, i < ds.length → (ds.getD i pdD).pl ∈ L) := fun i hi => by rw [← hL]; exact List.mem_map.2 ⟨_, mem_getDP hi, rfl⟩
  have HLl : Hid (L.length = ds.length) := by show _ = _; rw [← hL]; simp
  clear h hs hr B0 hS hN hR hL
  go_enter Tryz.func60, Tryz.ntmps60
  go_upto_region 1 with fail
  generalize w.alloc (rmb up (.slice a ds.length cap)) = X at *
  have HMO : Hid _ := World.ownsMap_made X Tryz.prog 2 (plainElem (H := Unit) Tryz.prog 3)
  have BX : Below X.heap.size X (X.alloc (.map #[] 0)) := (Below.refl _ _).alloc (Nat.le_refl _) _
  have HBX : Hid _ := BX
  obtain ⟨⟨z0, z1⟩, _⟩ := HALL.out _ BX
  clear BX
  go_wp2_with fail
  clear z0 z1
  go_loopw [4, 5, 6, 7, 12] (fun _ _ _ _ q wr => ∃ (k n : Nat) (D : DataW Unit), k ≤ ds.length ∧ q = .int .i64 (k : Int) ∧ wr.ownsMap Tryz.prog 2 (plainElem Tryz.prog 3) X.heap.size n D ∧ NE nt nx L k D ∧ n + cntN L D ≤ ds.length ∧ (∀ m, m < k → Fins nt nx (ds.getD m pdD).pl) ∧ Below X.heap.size X wr) (fun _ _ _ _ q _ => ds.length - (intOf q).toNat)
  case atStart => exact ⟨0, 0, .map [], Nat.zero_le _, rfl, HMO.out, ne_start, by rw [cntN_start, HLl.out]; omega, fun m hm => by omega, HBX.out⟩
  case round =>
    obtain ⟨k, n, D, hk, rfl, hM, hE, hn, hfin, hB⟩ := hrel
    clear HMO HBX
    have HB : Hid _ := hB
    have HM : Hid _ := hM
    have HE : Hid _ := hE
    have HN : Hid _ := hn
    have HFI : Hid _ := hfin
    obtain ⟨⟨z0, z1⟩, bw⟩ := HALL.out wr hB
    have sr := hB.size
    have sm := hM.lt
    clear hM hE hn hfin hB
    by_cases hlt : k < ds.length
    · obtain ⟨b, off, ea, hbl, k0, k1, k2, k3, k4, k5, k6, k7⟩ := pds_cell (pdsAt_below HP.out bw) hlt
      subst ea
      obtain ⟨sa, sn, sc, hsv⟩ := HSL.out _ (mem_getDP hlt)
      have hlt' : (k : Int) < (ds.length : Int) := by omega
      obtain ⟨d, hd⟩ : ∃ d, ds.getD k pdD = d := ⟨_, rfl⟩
      have HD : Hid _ := hd
      rw [hd] at k0 k1 k2 k3 k4 k5 k6 k7 hsv
      obtain ⟨ds', df, dc, dh, dp, dm, du, dl⟩ := d
      simp only at k0 k1 k2 k3 k4 k5 k6 k7 hsv
      subst hsv
      clear hd bw z0 z1
      go_wp2_with fail
      have HQ : Hid _ := heap_alloc_new wr (pdb ⟨ds', df, dc, dh, dp, dm, .slice sa sn sc, dl⟩)
      have BY : Below wr.heap.size wr (wr.alloc (pdb ⟨ds', df, dc, dh, dp, dm, .slice sa sn sc, dl⟩)) := (Below.refl _ _).alloc (Nat.le_refl _) _
      have HMY : Hid _ := map_below HM.out BY
      have HBY : Hid _ := HB.out.trans (BY.mono HB.out.size)
      have sY : wr.heap.size < (wr.alloc (pdb ⟨ds', df, dc, dh, dp, dm, .slice sa sn sc, dl⟩)).heap.size := by simp
      clear BY HM HB k0 k1 k2 k3 k4 k5 k6 k7
      generalize wr.alloc (pdb ⟨ds', df, dc, dh, dp, dm, .slice sa sn sc, dl⟩) = Y at *
      generalize wr.heap.size = pb at *
      go_loopw [6, 7] (fun _ _ wi => ∃ (i n : Nat) (D : DataW Unit), i < ds.length ∧ wi.heap[pb]? = some (pdb (ds.getD i pdD)) ∧ wi.ownsMap Tryz.prog 2 (plainElem Tryz.prog 3) X.heap.size n D ∧ NEi nt nx L k D (ds.getD k pdD).pl (ds.getD i pdD).pl ∧ n + cntN L D ≤ ds.length ∧ Below X.heap.size X wi ∧ pb < wi.heap.size) (fun _ _ wi => ds.length + 1 - mapLen wi X.heap.size)
      case atStart => exact ⟨k, n, D, hlt, by rw [HD.out]; exact HQ.out, HMY.out, HE.out.into _, HN.out, HBY.out, sY⟩
      case round =>
        obtain ⟨i, n, D, hi, hq, hM, hE, hn, hB, hpb⟩ := hrel
        clear HQ HMY HBY HE HN HD
        have HB : Hid _ := hB
        have HE : Hid _ := hE
        have HM : Hid _ := hM
        have HQ : Hid _ := hq
        obtain ⟨sa', sn', sc', hsv⟩ := HSL.out _ (mem_getDP hi)
        have hpl := HNP.out.place i hi
        have hnt := HNP.out.isNote i hi
        have HSO : Hid _ := HNP.out.some' i hi
        have HNX : Hid _ := HNP.out.next i hi
        have HLD : Hid _ := HNP.out.led i hi
        have HLI : Hid _ := HLm.out i hi
        have HSC : Hid _ := fun V hV => HSP.out.call V hV i hi
        have HSN : Hid _ := HSP.out.num i hi
        obtain ⟨d2, hd2⟩ : ∃ d2, ds.getD i pdD = d2 := ⟨_, rfl⟩
        simp only [hd2] at hq hsv hpl hnt HE HSO HNX HLD HLI HSC HSN HQ
        obtain ⟨es', ef, ec, eh, ep, em, eu, el⟩ := d2
        simp only at hsv hpl hnt HE HSO HNX HLD HLI HSC
        subst hsv
        obtain ⟨⟨y0, y1, y2, y3, y4, y5, y6, y7⟩, _⟩ := pdb_cells hq
        simp only at y0 y1 y2 y3 y4 y5 y6 y7
        have NA := isNote_any es' ef ec eh ep em (.slice sa' sn' sc') wr
        have BZ : Below wr.heap.size wr (wr.alloc (cb es' ef ec eh ep em (.slice sa' sn' sc'))) := (Below.refl _ _).alloc (Nat.le_refl _) _
        have HMZ : Hid _ := map_below hM BZ
        have HBZ : Hid (Below X.heap.size X (wr.alloc (cb es' ef ec eh ep em (.slice sa' sn' sc')))) := hB.trans (BZ.mono hB.size)
        have HQZ : Hid _ := (BZ.block pb hpb).trans hq
        have sz := hB.size
        have sZ : wr.heap.size < (wr.alloc (cb es' ef ec eh ep em (.slice sa' sn' sc'))).heap.size := by simp
        have HML : Hid _ := mapLen_own hM
        clear hq hM hE hB BZ hd2
        cases h7 : (ef == 7)
        · rw [h7] at NA
          have HST : Hid _ := HE.out.stop (fins_stop (by rw [← hnt]; exact h7))
          clear h7 hnt
          go_wp2_with (go_at_call 28; refine NA.mono ?_; clear NA; rintro e w3 ⟨rfl, hw3⟩; rw [hw3]; clear hw3 w3)
          refine ⟨⟨k + 1, n, D, by omega, by go_num, HMZ.out, HST.out.1, hn, fun m hm => ?_, HBZ.out⟩, by simp [intOf]; omega⟩
          by_cases e : m = k
          · rw [e]; exact HST.out.2
          · exact HFI.out m (by omega)
        · rw [h7] at NA hnt
          obtain rfl : ef = 7 := by simpa using h7
          have HNT : Hid _ := hnt.symm
          clear h7 hnt y0 y1 y2 y3 y4 y5 y6 y7
          obtain ⟨⟨y0, y1, y2, y3, y4, y5, y6, y7⟩, _⟩ := pdb_cells HQ.out
          simp only at y0 y1 y2 y3 y4 y5 y6 y7
          go_upto_region 6 with (go_at_call 28; refine NA.mono ?_; clear NA; rintro e w3 ⟨rfl, hw3⟩; rw [hw3]; clear hw3 w3)
          clear y0 y1 y2 y3 y4 y5 y6 y7
          generalize wr.alloc (cb es' 7 ec eh ep em (.slice sa' sn' sc')) = Z at *
          obtain ⟨⟨y0, y1, y2, y3, y4, y5, y6, y7⟩, _⟩ := pdb_cells HQZ.out
          simp only at y0 y1 y2 y3 y4 y5 y6 y7
          have HKY : Hid (keyOf Tryz.prog 2 (.int .i64 el) = some (kI el)) := keyOf_int_mk Tryz.underlying2 (WalkArith.wf_i64 hpl)
          obtain ⟨vv, ps, hrun, hv⟩ := World.ownsMap.look_ok HMZ.out lawK Tryz.underlying91 (zeroInt Z) (plainElem_int Tryz.underlying3 (WalkArith.wf_i64 ⟨by decide, by decide⟩)) HKY.out
          obtain ⟨c, rfl, hc, hwc⟩ := plainElem_int_inv Tryz.underlying3 hv
          have HC : Hid (D.atKey (kI el) (nD 0) = nD c) := congrArg Prod.fst hc
          clear hv hc hwc
          cases hh : Maps.has D (kI el)
          · rw [hh] at hrun
            have HSTEP : Hid _ := HE.out.step HLI.out HNT.out
            have HCN : Hid _ := cntN_put HE.out.tidy HLI.out hh (nD k)
            have HSZ : Hid _ := Maps.size_put (k := kI el) HE.out.tidy (nD k)
            rw [hh, if_neg (by decide)] at HSZ
            have hcn := HCN.out
            have HPE : Hid (plainElem (H := Unit) Tryz.prog 3 (.int .i64 (k : Int)) = some (nD k, [])) := plainElem_int Tryz.underlying3 (WalkArith.wf_i64 ⟨by omega, by omega⟩)
            have hnm : n < 9223372036854775807 := by omega
            clear hh HC
            go_upto_region 11 with (at_mapUpdate; refine wpList_mapUpdate_own _ rfl _ _ _ 91 rfl 2 3 lawK Tryz.underlying91 _ X.heap.size n _ rfl HMZ.out hnm _ _ _ rfl rfl HKY.out _ [] HPE.out ?_; intro w1 hown1 hgrow1)
            have B1 : Below X.heap.size X w1 := HBZ.out.grown hgrow1 HBZ.out.size (fun j hj => by cases hj; exact Nat.le_refl _)
            have Q1 := (hgrow1.block pb (lt_of_block HQZ.out) (fun e => by injection e with e; omega)).trans HQZ.out
            have HM1 : Hid _ := hown1
            have HW1 : Hid _ := (HALL.out w1 B1).2
            obtain ⟨y, hy⟩ : ∃ y, (sl ⟨es', 7, ec, eh, ep, em, .slice sa' sn' sc', el⟩).getD 0 0 = y := ⟨_, rfl⟩
            have hxp := HSO.out (by trivial)
            have hyb : I64 y := by rw [← hy]; exact getD_num HSN.out hxp
            have hyl : ledB ds y = true := by rw [← hy]; exact HLD.out (by trivial)
            have HNY : Hid (nx el = av y) := by show _ = _; rw [← hy]; exact HNX.out (by trivial)
            have HNT2 : Hid (∀ V, Below w1.heap.size w1 V → Calls Tryz.prog 63 #[cv es' 7 ec eh ep em (.slice sa' sn' sc')] V fun e w' => e = .returned (.int .i64 y) ∧ Below V.heap.size V w') := fun V hV => by
              have := note_any (w := V) hxp (fun V' hV' => HSC.out V' (HW1.out.trans ((hV.trans (hV'.mono hV.size)).mono HW1.out.size)))
              rwa [hy] at this
            have HLB2 : Hid (∀ V, Below w.heap.size w V → Calls Tryz.prog 50 #[rmv up (.slice (some ⟨b, off, none⟩) ds.length cap), .int .i64 y] V fun e w' => (∃ i, i < ds.length ∧ (ds.getD i pdD).pl = av y ∧ e = .returned (.tuple #[pdv (ds.getD i pdD), .bool true])) ∧ Below V.heap.size V w') := fun V hV => (HLB.out V hV y hyb).mono (fun e w' hh => ⟨hh.2.1 hyl, hh.2.2⟩)
            have s1 := B1.size
            have HG : Hid (∀ (V w' : World), Below V.heap.size V w' → Below w1.heap.size w1 V → (w'.cell? ⟨w.heap.size, 0, none⟩ = some (.int .i64 up) ∧ w'.cell? ⟨w.heap.size, 1, none⟩ = some (.slice (some ⟨b, off, none⟩) ds.length cap)) ∧ w'.heap[pb]? = some (pdb ⟨es', 7, ec, eh, ep, em, .slice sa' sn' sc', el⟩) ∧ Below w.heap.size w w' ∧ w'.ownsMap Tryz.prog 2 (plainElem Tryz.prog 3) X.heap.size (n + 1) (D.put (kI el) (nD k)) ∧ Below X.heap.size X w' ∧ pb < w'.heap.size) := by
              intro V w' h1 h2
              have h3 : Below w1.heap.size w1 w' := h2.trans (h1.mono h2.size)
              have hX : Below X.heap.size X w' := B1.trans (h3.mono B1.size)
              obtain ⟨hz, hw⟩ := HALL.out w' hX
              exact ⟨hz, (h3.block pb (lt_of_block Q1)).trans Q1, hw, map_below HM1.out h3, hX, Nat.lt_of_lt_of_le (lt_of_block Q1) h3.size⟩
            obtain ⟨⟨z0, z1⟩, _⟩ := HALL.out w1 B1
            clear y0 y1 y2 y3 y4 y5 y6 y7
            obtain ⟨⟨y0, y1, y2, y3, y4, y5, y6, y7⟩, _⟩ := pdb_cells Q1
            simp only at y0 y1 y2 y3 y4 y5 y6 y7
            have HEND : Hid (∀ (w6 : World) (i2 : Nat), i2 < ds.length → (ds.getD i2 pdD).pl = av y → w6.heap[pb]? = some (pdb ⟨es', 7, ec, eh, ep, em, .slice sa' sn' sc', el⟩) → w6.ownsMap Tryz.prog 2 (plainElem Tryz.prog 3) X.heap.size (n + 1) (D.put (kI el) (nD k)) → Below X.heap.size X w6 → pb < w6.heap.size → (∃ (i n : Nat) (D : DataW Unit), i < ds.length ∧ (pdSet w6 pb (ds.getD i2 pdD)).heap[pb]? = some (pdb (ds.getD i pdD)) ∧ (pdSet w6 pb (ds.getD i2 pdD)).ownsMap Tryz.prog 2 (plainElem Tryz.prog 3) X.heap.size n D ∧ NEi nt nx L k D (ds.getD k pdD).pl (ds.getD i pdD).pl ∧ n + cntN L D ≤ ds.length ∧ Below X.heap.size X (pdSet w6 pb (ds.getD i2 pdD)) ∧ pb < (pdSet w6 pb (ds.getD i2 pdD)).heap.size) ∧ ds.length + 1 - mapLen (pdSet w6 pb (ds.getD i2 pdD)) X.heap.size < ds.length + 1 - mapLen wr X.heap.size) := by
              intro w6 i2 hi2 hp2 hq6 hm6 hb6 hs6
              have hne : X.heap.size ≠ pb := by omega
              refine ⟨⟨i2, n + 1, _, hi2, pdb_set hq6 _, map_pdSet hm6 hne _, ?_, by omega, pdb_below hb6 (by omega) _, by unfold pdSet; simpa using hs6⟩, ?_⟩
              · rw [hp2, ← HNY.out]; exact HSTEP.out
              · rw [mapLen_pdSet hne, mapLen_own hm6, HML.out, HSZ.out]
                have := World.ownsMap.size_le HM.out
                omega
            clear B1 Q1 hown1 hgrow1 HNP HSP HALL HSTEP HSZ HCN hcn HSO HNX HLD HSC HSN HLB HKY HPE hrun hy hxp hyb hyl HMZ HBZ HQZ HM1 HML HQ HM HE HB
            go_region_law (first
              | (go_simp; go_at_call 63; refine Calls.mono (HNT2.out _ ⟨rfl, rfl, rfl, Nat.le_refl _, fun _ _ => rfl⟩) ?_; rintro e w5 ⟨rfl, b5⟩; obtain ⟨⟨t0, t1⟩, q5, bw5, _⟩ := HG.out _ _ b5 ⟨rfl, rfl, rfl, Nat.le_refl _, fun _ _ => rfl⟩; have HB5 : Hid (Below w1.heap.size w1 w5) := ⟨b5.os, b5.tape, b5.output, b5.size, b5.block⟩; have HBW5 : Hid _ := bw5; clear HNT2 b5 bw5 q5)
              | (go_simp; go_at_call 50; refine Calls.mono (HLB2.out _ ⟨HBW5.out.os, HBW5.out.tape, HBW5.out.output, HBW5.out.size, HBW5.out.block⟩) ?_; rintro e w6 ⟨⟨i2, hi2, hp2, rfl⟩, b6⟩; obtain ⟨_, q6, _, m6, bx6, s6⟩ := HG.out w5 w6 ⟨b6.os, b6.tape, b6.output, b6.size, b6.block⟩ HB5.out; obtain ⟨⟨g0, g1, g2, g3, g4, g5, g6, g7⟩, f0, f1, f2, f3, f4, f5, f6, f7⟩ := pdb_cells q6; obtain ⟨sa2, sn2, sc2, hsv2⟩ := HSL.out _ (mem_getDP hi2); have HE6 : Hid _ := HEND.out w6 i2 hi2 hp2 q6 m6 bx6 s6; obtain ⟨d3, hd3⟩ : ∃ d3, ds.getD i2 pdD = d3 := ⟨_, rfl⟩; rw [hd3] at hsv2 HE6 ⊢; obtain ⟨es3, ef3, ec3, eh3, ep3, em3, eu3, el3⟩ := d3; simp only at hsv2 g0 g1 g2 g3 g4 g5 g6 g7; subst hsv2; clear HLB2 b6 q6 m6 bx6 hp2 hd3 HEND HG))
            all_goals (go_wp2_with fail)
            all_goals exact HE6.out
          · rw [hh] at hrun
            by_cases hck : c = k
            · subst hck
              have HF : Hid (R = false) := by
                show _ = _
                cases hRR : R
                · rfl
                · exact absurd (HR.out.1 hRR k hlt) (HE.out.round hh HC.out)
              have HBW : Hid _ := (HALL.out Z HBZ.out).2
              clear hh HC
              go_wp2
              go_ret
              exact ⟨by rw [HF.out]; rfl, HBW.out⟩
            · have HST : Hid _ := HE.out.stop (HE.out.old hh HC.out hck)
              have hck' : (c == (k : Int)) = false := by simpa using hck
              clear hh HC
              go_wp2
              refine ⟨⟨k + 1, n, D, by omega, by go_num, HMZ.out, HST.out.1, hn, fun m hm => ?_, HBZ.out⟩, by simp [intOf]; omega⟩
              by_cases e : m = k
              · rw [e]; exact HST.out.2
              · exact HFI.out m (by omega)
    · have hlt' : ¬ (k : Int) < (ds.length : Int) := by omega
      have HF : Hid (R = true) := HR.out.2 (fun i hi => HFI.out i (by omega))
      have HBW : Hid _ := bw
      clear bw z0 z1
      go_wp2
      go_ret
      exact ⟨by rw [HF.out]; rfl, HBW.out⟩
end Go.Proofs.YtfbopegdldoocaaGreat.hp
namespace Go.Proofs.YtfbopegdldoocaaGreat.hp
open Go.RowKit rows heads words walks
set_option maxRecDepth 100000
set_option linter.unusedVariables false
set_option linter.unusedSimpArgs false

/-- The rooms may be read. -/
structure RoomsAt (w : World) (v : Value) (ds : List Pd) (sl : Pd → List Int) : Prop where
  pds : PdsAt w v ds
  slices : SlicesP ds
  rise : RiseP ds
  len : ds.length ≤ 1000
  slots : SlotsP w ds sl
theorem slotsP_below {w w' : World} {ds : List Pd} {sl : Pd → List Int} (h : SlotsP w ds sl) (hb : Below w.heap.size w w') : SlotsP w' ds sl where
  call V hV i hi := h.call V (hb.trans (hV.mono hb.size)) i hi
  len := h.len
  num := h.num
theorem RoomsAt.below {w w' : World} {v : Value} {ds : List Pd} {sl : Pd → List Int} (h : RoomsAt w v ds sl) (hb : Below w.heap.size w w') : RoomsAt w' v ds sl := ⟨pdsAt_below h.pds hb, h.slices, h.rise, h.len, slotsP_below h.slots hb⟩
theorem objs_slices (a : Option Addr) (H : Hp) : SlicesP (objsP a H) := by
  intro d hd
  unfold objsP at hd
  rcases List.mem_append.1 hd with hd | hd
  · exact pdsOf_slices _ _ _ d hd
  · exact pdsOf_slices _ _ _ d (List.mem_filter.1 hd).1
theorem objs_len {a : Option Addr} {H : Hp} (hn : numB H = true) (hr : roomB a H = true) : (objsP a H).length ≤ 1000 := by
  obtain ⟨r, u, e1, e2, e3, e4⟩ := room_some hn hr
  obtain ⟨half, old, top, fr, q1, q2, q3, q4, q5, q6, q7, q8, h1, h2, h3, h4⟩ := num_parts hn
  have b1 := (walkO_len (by rw [q8, q7]; omega) e1).1
  have b2 := (walkO_len (by rw [q5, q6]; omega) e2).1
  rw [q8, q7] at b1
  rw [q5, q6] at b2
  rw [e4, List.length_append]
  have : (keepP (pdsOf a H.row u)).length ≤ u.length := by
    unfold keepP
    refine Nat.le_trans (List.length_filter_le _ _) ?_
    unfold pdsOf; rw [List.length_map]; exact Nat.le_refl _
  have : (pdsOf a H.row r).length = r.length := by unfold pdsOf; rw [List.length_map]
  omega
theorem roomsAt_of {w : World} {a : Option Addr} {c : Nat} {H : Hp} (hx : IntsAt w (.slice a H.row.length c) H.row) (hn : numB H = true) (hr : roomB a H = true) (ha : AllI H.row) {v : Value} (hv : PdsAt w v (objsP a H)) : RoomsAt w v (objsP a H) (slP H.row) := by
  obtain ⟨N⟩ := numN hn
  have hl := N.ln
  have := N.lh
  have := N.bh
  have := N.bo
  refine ⟨hv, objs_slices a H, objs_rise hn, objs_len hn hr, ?_⟩
  have hx' := hx
  obtain ⟨a', c', e, _, _, _, hc⟩ := hx'
  injection e with e1 _ e3
  subst e1
  obtain ⟨b, off, rfl, _⟩ := hc (by omega)
  exact slotsP_of hx (by omega) ha (objs_in hr)
theorem slP_note {a : Option Addr} {xs : List Int} {j : Nat} (hc : chunk xs j ≠ 0) (h7 : uF (xs.getD j 0) = 7) : j + 1 < xs.length ∧ slP xs (pdOf a xs j) = [xs.getD (j + 1) 0] := by
  have h6 : uF (xs.getD j 0) ≠ 6 := by omega
  have q := chunk_fits hc h6
  have hj : j + 1 < xs.length := by omega
  refine ⟨hj, ?_⟩
  unfold slP
  rw [cnP_of, if_pos h7, pdOf_pl, Int.toNat_natCast, List.drop_eq_getElem_cons hj, List.getD_eq_getElem?_getD, List.getElem?_eq_getElem hj]
  rfl
theorem hold_note {a : Option Addr} {H : Hp} {ds : List Pd} (hS : holdS ds (slP H.row) = true) {j : Nat} (hd : pdOf a H.row j ∈ ds) (hc : chunk H.row j ≠ 0) (h7 : uF (H.row.getD j 0) = 7) : isA (H.row.getD (j + 1) 0) = true ∧ hasP ds (av (H.row.getD (j + 1) 0)) = true := by
  have hA := chunk_note hc h7
  refine ⟨hA, ?_⟩
  unfold holdS at hS
  rw [List.all_eq_true] at hS
  have := hS _ hd
  rw [(slP_note (a := a) hc h7).2] at this
  unfold holdL at this
  rw [List.all_cons, List.all_nil, Bool.and_true] at this
  unfold holdW at this
  rwa [if_pos hA] at this
theorem objs_notes {a : Option Addr} {H : Hp} (hr : roomB a H = true) (hS : holdS (objsP a H) (slP H.row) = true) : Notes H ((objsP a H).map (·.pl)) := by
  intro p hp h7
  obtain ⟨d, hd, rfl⟩ := List.mem_map.1 hp
  obtain ⟨j, rfl, hc, h6⟩ := objs_in hr d hd
  rw [pdOf_pl, Int.toNat_natCast] at h7 ⊢
  obtain ⟨hA, hh⟩ := hold_note hS hd hc h7
  refine ⟨(slP_note (a := a) hc h7).1, hA, ?_⟩
  unfold hasP at hh
  rw [List.any_eq_true] at hh
  obtain ⟨d, hd, e⟩ := hh
  exact List.mem_map.2 ⟨d, hd, by simpa using e⟩
theorem noteP_of {a : Option Addr} {H : Hp} (hn : numB H = true) (hr : roomB a H = true) (hS : holdS (objsP a H) (slP H.row) = true) : NoteP (objsP a H) (slP H.row) (ntH H) (nxH H) := by
  obtain ⟨N⟩ := numN hn
  have hl := N.ln
  have := N.bh
  have := N.bo
  have key : ∀ i, i < (objsP a H).length → ∃ j : Nat, (objsP a H).getD i pdD = pdOf a H.row j ∧ chunk H.row j ≠ 0 ∧ pdOf a H.row j ∈ objsP a H ∧ j < H.row.length := by
    intro i hi
    obtain ⟨j, e, hc, h6⟩ := objs_in hr _ (mem_getDP hi)
    have := chunk_fits hc h6
    exact ⟨j, e, hc, by rw [← e]; exact mem_getDP hi, by omega⟩
  refine ⟨fun i hi => ?_, fun i hi => ?_, fun i hi h7 => ?_, fun i hi h7 => ?_, fun i hi h7 => ?_⟩
  all_goals obtain ⟨j, e, hc, hm, hj⟩ := key i hi
  all_goals rw [e]
  · rw [pdOf_pl]; unfold I64; omega
  · unfold ntH; rw [pdOf_pl, Int.toNat_natCast]; rfl
  · rw [e] at h7; rw [(slP_note (a := a) hc h7).2]; exact Nat.zero_lt_one
  · rw [e] at h7; rw [(slP_note (a := a) hc h7).2, pdOf_pl]; unfold nxH; rw [Int.toNat_natCast]; rfl
  · rw [e] at h7
    rw [(slP_note (a := a) hc h7).2]
    obtain ⟨hA, hh⟩ := hold_note hS hm hc h7
    unfold ledB
    show (isA (H.row.getD (j + 1) 0) && hasP _ (av (H.row.getD (j + 1) 0))) = true
    rw [hA, hh]; rfl
theorem ends_iff {a : Option Addr} {H : Hp} (hr : roomB a H = true) (hS : holdS (objsP a H) (slP H.row) = true) : endsOk H ((objsP a H).map (·.pl)) = true ↔ ∀ i, i < (objsP a H).length → Fins (ntH H) (nxH H) ((objsP a H).getD i pdD).pl := by
  rw [endsOk_is (objs_notes hr hS)]
  constructor
  · intro g i hi
    exact g _ (List.mem_map.2 ⟨_, mem_getDP hi, rfl⟩)
  · intro g p hp
    obtain ⟨d, hd, rfl⟩ := List.mem_map.1 hp
    obtain ⟨i, hi, rfl⟩ := List.getElem_of_mem hd
    have := g i hi
    rwa [List.getD_eq_getElem?_getD, List.getElem?_eq_getElem hi] at this
end Go.Proofs.YtfbopegdldoocaaGreat.hp
namespace Go.Proofs.YtfbopegdldoocaaGreat.hp
open Go.RowKit rows heads words walks
set_option maxRecDepth 100000
set_option linter.unusedVariables false
set_option linter.unusedSimpArgs false

abbrev hov (H : Hp) (vr vo vm vs : Value) (up : Int) (v : Value) : Value := .agg #[.int .i64 H.half, .int .i64 H.old, vr, .int .i64 H.side, .int .i64 H.top, vo, vm, vs, .int .i64 H.seed, .int .i64 up, v]
abbrev hob (H : Hp) (vr vo vm vs : Value) (up : Int) (v : Value) : Obj := .cells #[.int .i64 H.half, .int .i64 H.old, vr, .int .i64 H.side, .int .i64 H.top, vo, vm, vs, .int .i64 H.seed, .int .i64 up, v] 54
/-- The heap of nothing, written out. -/
abbrev hz : Hp := ⟨0, 0, [], 0, 0, [], [], [], 0⟩
abbrev s0 : Value := .slice none 0 0
abbrev hov0 : Value := hov hz s0 s0 s0 s0 0 s0
theorem hob_cells {W : World} {b : Nat} {H : Hp} {vr vo vm vs : Value} {up : Int} {v : Value} (h : W.heap[b]? = some (hob H vr vo vm vs up v)) : (W.cell? ⟨b, 0, none⟩ = some (.int .i64 H.half) ∧ W.cell? ⟨b, 1, none⟩ = some (.int .i64 H.old) ∧ W.cell? ⟨b, 2, none⟩ = some vr ∧ W.cell? ⟨b, 3, none⟩ = some (.int .i64 H.side) ∧ W.cell? ⟨b, 4, none⟩ = some (.int .i64 H.top) ∧ W.cell? ⟨b, 5, none⟩ = some vo ∧ W.cell? ⟨b, 6, none⟩ = some vm ∧ W.cell? ⟨b, 7, none⟩ = some vs ∧ W.cell? ⟨b, 8, none⟩ = some (.int .i64 H.seed) ∧ W.cell? ⟨b, 9, none⟩ = some (.int .i64 up) ∧ W.cell? ⟨b, 10, none⟩ = some v) ∧ W.frozen? ⟨b, 0, none⟩ = false ∧ W.frozen? ⟨b, 1, none⟩ = false ∧ W.frozen? ⟨b, 2, none⟩ = false ∧ W.frozen? ⟨b, 3, none⟩ = false ∧ W.frozen? ⟨b, 4, none⟩ = false ∧ W.frozen? ⟨b, 5, none⟩ = false ∧ W.frozen? ⟨b, 6, none⟩ = false ∧ W.frozen? ⟨b, 7, none⟩ = false ∧ W.frozen? ⟨b, 8, none⟩ = false ∧ W.frozen? ⟨b, 9, none⟩ = false ∧ W.frozen? ⟨b, 10, none⟩ = false := by
  refine ⟨⟨?_, ?_, ?_, ?_, ?_, ?_, ?_, ?_, ?_, ?_, ?_⟩, ?_, ?_, ?_, ?_, ?_, ?_, ?_, ?_, ?_, ?_, ?_⟩ <;> simp [World.cell?, World.frozen?, h]
def hoSet (W : World) (b : Nat) (H : Hp) (vr vo vm vs : Value) (up : Int) (v : Value) : World := ((((((((((W.setCell ⟨b, 0, none⟩ (.int .i64 H.half)).setCell ⟨b, 1, none⟩ (.int .i64 H.old)).setCell ⟨b, 2, none⟩ vr).setCell ⟨b, 3, none⟩ (.int .i64 H.side)).setCell ⟨b, 4, none⟩ (.int .i64 H.top)).setCell ⟨b, 5, none⟩ vo).setCell ⟨b, 6, none⟩ vm).setCell ⟨b, 7, none⟩ vs).setCell ⟨b, 8, none⟩ (.int .i64 H.seed)).setCell ⟨b, 9, none⟩ (.int .i64 up)).setCell ⟨b, 10, none⟩ v
theorem hob_set {W : World} {b : Nat} {H0 : Hp} {r0 o0 m0 q0 : Value} {up0 : Int} {v0 : Value} (h : W.heap[b]? = some (hob H0 r0 o0 m0 q0 up0 v0)) (H : Hp) (vr vo vm vs : Value) (up : Int) (v : Value) : (hoSet W b H vr vo vm vs up v).heap[b]? = some (hob H vr vo vm vs up v) := (cells_setCell (cells_setCell (cells_setCell (cells_setCell (cells_setCell (cells_setCell (cells_setCell (cells_setCell (cells_setCell (cells_setCell (cells_setCell h 0 (.int .i64 H.half)) 1 (.int .i64 H.old)) 2 vr) 3 (.int .i64 H.side)) 4 (.int .i64 H.top)) 5 vo) 6 vm) 7 vs) 8 (.int .i64 H.seed)) 9 (.int .i64 up)) 10 v).trans (by simp)
theorem hob_below {n : Nat} {w X : World} {b : Nat} (hB : Below n w X) (hb : n ≤ b) (H : Hp) (vr vo vm vs : Value) (up : Int) (v : Value) : Below n w (hoSet X b H vr vo vm vs up v) := ((((((((((hB.setCell (p := ⟨b, 0, none⟩) hb _).setCell (p := ⟨b, 1, none⟩) hb _).setCell (p := ⟨b, 2, none⟩) hb _).setCell (p := ⟨b, 3, none⟩) hb _).setCell (p := ⟨b, 4, none⟩) hb _).setCell (p := ⟨b, 5, none⟩) hb _).setCell (p := ⟨b, 6, none⟩) hb _).setCell (p := ⟨b, 7, none⟩) hb _).setCell (p := ⟨b, 8, none⟩) hb _).setCell (p := ⟨b, 9, none⟩) hb _).setCell (p := ⟨b, 10, none⟩) hb _
theorem hob_ch (X : World) (b : Nat) (H : Hp) (vr vo vm vs : Value) (up : Int) (v : Value) : Ch [b] X (hoSet X b H vr vo vm vs up v) := (Ch.trans (Ch.trans (Ch.trans (Ch.trans (Ch.trans (Ch.trans (Ch.trans (Ch.trans (Ch.trans (Ch.trans (one_ch _ _ _ _) (one_ch _ _ _ _)) (one_ch _ _ _ _)) (one_ch _ _ _ _)) (one_ch _ _ _ _)) (one_ch _ _ _ _)) (one_ch _ _ _ _)) (one_ch _ _ _ _)) (one_ch _ _ _ _)) (one_ch _ _ _ _)) (one_ch _ _ _ _))
theorem res_ho {fn : Func} {tmps : Array Value} {X : World} {j i b : Nat} {H : Hp} {a1 a2 a3 a4 a5 : Option Addr} {n1 c1 n2 c2 n3 c3 n4 c4 n5 c5 : Nat} {up : Int} {bb : Bool} (hf : fn.results = #[.cell j 54, .tmp i]) (h2 : tmps[j]? = some (.pointer (some ⟨b, 0, none⟩))) (hi : tmps[i]? = some (.bool bb)) (hX : X.heap[b]? = some (hob H (.slice a1 n1 c1) (.slice a2 n2 c2) (.slice a3 n3 c3) (.slice a4 n4 c4) up (.slice a5 n5 c5))) :
    (results fn tmps).run Tryz.prog X = .ok (.tuple #[hov H (.slice a1 n1 c1) (.slice a2 n2 c2) (.slice a3 n3 c3) (.slice a4 n4 c4) up (.slice a5 n5 c5), .bool bb]) X := by
  obtain ⟨⟨k0, k1, k2, k3, k4, k5, k6, k7, k8, k9, k10⟩, _⟩ := hob_cells hX
  clear hX
  simp [results, hf, h2, hi, go_sem, k0, k1, k2, k3, k4, k5, k6, k7, k8, k9, k10]

set_option maxHeartbeats 8000000 in
theorem listsOk_any {w : World} {a1 a2 a3 a4 a5 : Option Addr} {c1 c2 c3 c4 c5 : Nat} {H : Hp} {up : Int} {ds : List Pd} {sl : Pd → List Int} (h : HpAt w (.slice a1 H.row.length c1) (.slice a2 H.roots.length c2) (.slice a3 H.mourned.length c3) (.slice a4 H.seen.length c4) H) (hs : hpSize H ≤ 1048576) (ho : AllI H.roots) (hm : AllI H.mourned) (hv : RoomsAt w (.slice a5 ds.length c5) ds sl) :
    Calls Tryz.prog 61 #[hov H (.slice a1 H.row.length c1) (.slice a2 H.roots.length c2) (.slice a3 H.mourned.length c3) (.slice a4 H.seen.length c4) up (.slice a5 ds.length c5)] w fun e w' => e = .returned (.bool (lstB H ds)) ∧ Below w.heap.size w w' := by
  have lr : H.roots.length ≤ 1048576 := by unfold hpSize at hs; omega
  have lm : H.mourned.length ≤ 1048576 := by unfold hpSize at hs; omega
  have B0 : Below w.heap.size w (w.alloc (hob H (.slice a1 H.row.length c1) (.slice a2 H.roots.length c2) (.slice a3 H.mourned.length c3) (.slice a4 H.seen.length c4) up (.slice a5 ds.length c5))) := (Below.refl _ _).alloc (Nat.le_refl _) _
  have Q0 := heap_alloc_new w (hob H (.slice a1 H.row.length c1) (.slice a2 H.roots.length c2) (.slice a3 H.mourned.length c3) (.slice a4 H.seen.length c4) up (.slice a5 ds.length c5))
  have HALL : Hid (∀ V, Below (w.alloc (hob H (.slice a1 H.row.length c1) (.slice a2 H.roots.length c2) (.slice a3 H.mourned.length c3) (.slice a4 H.seen.length c4) up (.slice a5 ds.length c5))).heap.size (w.alloc (hob H (.slice a1 H.row.length c1) (.slice a2 H.roots.length c2) (.slice a3 H.mourned.length c3) (.slice a4 H.seen.length c4) up (.slice a5 ds.length c5))) V → V.heap[w.heap.size]? = some (hob H (.slice a1 H.row.length c1) (.slice a2 H.roots.length c2) (.slice a3 H.mourned.length c3) (.slice a4 H.seen.length c4) up (.slice a5 ds.length c5)) ∧ Below w.heap.size w V ∧ (∀ xs u, xs.length ≤ 1048576 → AllI xs → IntsAt w u xs → Calls Tryz.prog 81 #[rmv up (.slice a5 ds.length c5), u] V fun e w' => e = .returned (.bool (holdL ds xs)) ∧ Below V.heap.size V w')) := by
    intro V hV
    have B := B0.trans (hV.mono B0.size)
    exact ⟨(hV.block _ (by simp)).trans Q0, B, fun xs u h1 h2 h3 => holdsAll_any (pdsAt_below hv.pds B) hv.slices hv.rise (Nat.le_trans hv.len (by decide)) (intsAt_below h3 B) h1 h2⟩
  have AL := allLead_any (intsAt_below h.2.2.1 B0) lm hm
  have HRT : Hid (∀ V, Below (w.alloc (hob H (.slice a1 H.row.length c1) (.slice a2 H.roots.length c2) (.slice a3 H.mourned.length c3) (.slice a4 H.seen.length c4) up (.slice a5 ds.length c5))).heap.size (w.alloc (hob H (.slice a1 H.row.length c1) (.slice a2 H.roots.length c2) (.slice a3 H.mourned.length c3) (.slice a4 H.seen.length c4) up (.slice a5 ds.length c5))) V → Calls Tryz.prog 81 #[rmv up (.slice a5 ds.length c5), .slice a2 H.roots.length c2] V fun e w' => e = .returned (.bool (holdL ds H.roots)) ∧ Below V.heap.size V w') := fun V hV => (HALL.out V hV).2.2 _ _ lr ho h.2.1
  have HMT : Hid (∀ V, Below (w.alloc (hob H (.slice a1 H.row.length c1) (.slice a2 H.roots.length c2) (.slice a3 H.mourned.length c3) (.slice a4 H.seen.length c4) up (.slice a5 ds.length c5))).heap.size (w.alloc (hob H (.slice a1 H.row.length c1) (.slice a2 H.roots.length c2) (.slice a3 H.mourned.length c3) (.slice a4 H.seen.length c4) up (.slice a5 ds.length c5))) V → Calls Tryz.prog 81 #[rmv up (.slice a5 ds.length c5), .slice a3 H.mourned.length c3] V fun e w' => e = .returned (.bool (holdL ds H.mourned)) ∧ Below V.heap.size V w') := fun V hV => (HALL.out V hV).2.2 _ _ lm hm h.2.2.1
  have HB0 : Hid _ := B0
  have HG : Hid (∀ V, Below (w.alloc (hob H (.slice a1 H.row.length c1) (.slice a2 H.roots.length c2) (.slice a3 H.mourned.length c3) (.slice a4 H.seen.length c4) up (.slice a5 ds.length c5))).heap.size (w.alloc (hob H (.slice a1 H.row.length c1) (.slice a2 H.roots.length c2) (.slice a3 H.mourned.length c3) (.slice a4 H.seen.length c4) up (.slice a5 ds.length c5))) V → V.heap[w.heap.size]? = some (hob H (.slice a1 H.row.length c1) (.slice a2 H.roots.length c2) (.slice a3 H.mourned.length c3) (.slice a4 H.seen.length c4) up (.slice a5 ds.length c5)) ∧ Below w.heap.size w V) := fun V hV => ⟨(HALL.out V hV).1, (HALL.out V hV).2.1⟩
  unfold lstB
  obtain ⟨⟨z0, z1, z2, z3, z4, z5, z6, z7, z8, z9, z10⟩, _⟩ := hob_cells Q0
  clear h hs ho hm hv B0 Q0 HALL
  by_cases h6 : H.roots.length = 6
  case neg =>
    rw [decide_eq_false h6, Bool.false_and, Bool.false_and]
    have n6 : ((H.roots.length : Int) != 6) = true := by simp; omega
    clear AL HRT HMT
    go_enter Tryz.func61, Tryz.ntmps61
    go_wp2
    go_ret
    exact ⟨rfl, HB0.out⟩
  have n6 : ((H.roots.length : Int) != 6) = false := by simp; omega
  by_cases h40 : H.mourned.length ≤ 40
  case neg =>
    rw [decide_eq_false h40, Bool.and_false, Bool.false_and]
    have n40 : (H.mourned.length : Int) > 40 := by omega
    clear AL HRT HMT h6
    go_enter Tryz.func61, Tryz.ntmps61
    go_wp2
    go_ret
    exact ⟨rfl, HB0.out⟩
  have n40 : ¬ (H.mourned.length : Int) > 40 := by omega
  rw [decide_eq_true h6, decide_eq_true h40, Bool.true_and, Bool.true_and]
  obtain ⟨P1, hP1⟩ : ∃ P, H.mourned.all isA = P := ⟨_, rfl⟩
  obtain ⟨P2, hP2⟩ : ∃ P, holdL ds H.roots = P := ⟨_, rfl⟩
  obtain ⟨P3, hP3⟩ : ∃ P, holdL ds H.mourned = P := ⟨_, rfl⟩
  rw [hP1] at AL
  simp only [hP2] at HRT
  simp only [hP3] at HMT
  rw [hP1, hP2, hP3]
  clear hP1 hP2 hP3 h6 h40
  go_enter Tryz.func61, Tryz.ntmps61
  go_upto_region 1 with fail
  generalize w.alloc (hob H (.slice a1 H.row.length c1) (.slice a2 H.roots.length c2) (.slice a3 H.mourned.length c3) (.slice a4 H.seen.length c4) up (.slice a5 ds.length c5)) = X at *
  cases P1
  · clear HRT HMT
    go_wp2_with (go_at_call 82; refine AL.mono ?_; clear AL; rintro e w3 ⟨rfl, hw3⟩; rw [hw3]; clear hw3 w3)
    go_ret
    exact ⟨rfl, HB0.out⟩
  have RX := HRT.out X (Below.refl _ _)
  cases P2
  · clear HRT HMT
    go_wp2_with (first | (go_at_call 82; refine AL.mono ?_; clear AL; rintro e w3 ⟨rfl, hw3⟩; rw [hw3]; clear hw3 w3) | (go_at_call 81; refine RX.mono ?_; clear RX; rintro e w4 ⟨rfl, b4⟩; have HB4 : Hid _ := (HG.out w4 b4).2; clear b4))
    go_ret
    exact ⟨rfl, HB4.out⟩
  clear HRT
  go_wp2_with (first
    | (go_at_call 82; refine AL.mono ?_; clear AL; rintro e w3 ⟨rfl, hw3⟩; rw [hw3]; clear hw3 w3)
    | (have hh := RX; clear hh; go_at_call 81; refine RX.mono ?_; clear RX z0 z1 z2 z3 z4 z5 z6 z7 z8 z9 z10; rintro e w4 ⟨rfl, b4⟩; obtain ⟨q4, _⟩ := HG.out w4 b4; obtain ⟨⟨z0, z1, z2, z3, z4, z5, z6, z7, z8, z9, z10⟩, _⟩ := hob_cells q4; have MX := HMT.out w4 b4; have HB4 : Hid _ := b4; clear b4 q4 HMT)
    | (have hh := MX; clear hh; go_at_call 81; refine MX.mono ?_; clear MX; rintro e w5 ⟨rfl, b5⟩; have HB5 : Hid _ := (HG.out w5 (HB4.out.trans (b5.mono HB4.out.size))).2; clear b5))
  go_ret
  exact ⟨rfl, HB5.out⟩
end Go.Proofs.YtfbopegdldoocaaGreat.hp
namespace Go.Proofs.YtfbopegdldoocaaGreat.hp
open Go.RowKit rows heads words walks
set_option maxRecDepth 100000
set_option linter.unusedVariables false
set_option linter.unusedSimpArgs false

/-- What stays so once the heap's copy and the house to be answered are laid. -/
theorem hpX_all {w : World} {vr vo vm vs : Value} {H : Hp} (h : HpAt w vr vo vm vs H) : ∀ V, Below (((w.alloc (hpb H vr vo vm vs)).alloc (hob hz s0 s0 s0 s0 0 s0))).heap.size (((w.alloc (hpb H vr vo vm vs)).alloc (hob hz s0 s0 s0 s0 0 s0))) V → V.heap[w.heap.size]? = some (hpb H vr vo vm vs) ∧ V.heap[w.heap.size + 1]? = some (hob hz s0 s0 s0 s0 0 s0) ∧ HpAt V vr vo vm vs H ∧ Below w.heap.size w V ∧ w.heap.size + 2 ≤ V.heap.size := by
  intro V hV
  have B0 : Below w.heap.size w (w.alloc (hpb H vr vo vm vs)) := (Below.refl _ _).alloc (Nat.le_refl _) _
  have B1 := B0.alloc B0.size (hob hz s0 s0 s0 s0 0 s0)
  have T1 := heap_alloc_new (w.alloc (hpb H vr vo vm vs)) (hob hz s0 s0 s0 s0 0 s0)
  have T2 : Below (w.heap.size + 1) (w.alloc (hpb H vr vo vm vs)) V := ((Below.refl _ _).alloc (by simp) _).trans (hV.mono (by simp))
  have hs := hV.size
  have q0 : V.heap[w.heap.size]? = some (hpb H vr vo vm vs) := (T2.block _ (by omega)).trans (heap_alloc_new w _)
  have q1 : V.heap[w.heap.size + 1]? = some (hob hz s0 s0 s0 s0 0 s0) := (hV.block (w.heap.size + 1) (by simp)).trans ((congrArg (fun k => (((w.alloc (hpb H vr vo vm vs)).alloc (hob hz s0 s0 s0 s0 0 s0))).heap[k]?) (show w.heap.size + 1 = (w.alloc (hpb H vr vo vm vs)).heap.size by simp)).trans T1)
  exact ⟨q0, q1, hpAt_below h (B1.trans (hV.mono B1.size)), B1.trans (hV.mono B1.size), by simpa using hs⟩
theorem hpb_cells {W : World} {b : Nat} {H : Hp} {vr vo vm vs : Value} (h : W.heap[b]? = some (hpb H vr vo vm vs)) : W.cell? ⟨b, 0, none⟩ = some (.int .i64 H.half) ∧ W.cell? ⟨b, 1, none⟩ = some (.int .i64 H.old) ∧ W.cell? ⟨b, 2, none⟩ = some vr ∧ W.cell? ⟨b, 3, none⟩ = some (.int .i64 H.side) ∧ W.cell? ⟨b, 4, none⟩ = some (.int .i64 H.top) ∧ W.cell? ⟨b, 5, none⟩ = some vo ∧ W.cell? ⟨b, 6, none⟩ = some vm ∧ W.cell? ⟨b, 7, none⟩ = some vs ∧ W.cell? ⟨b, 8, none⟩ = some (.int .i64 H.seed) := by
  refine ⟨?_, ?_, ?_, ?_, ?_, ?_, ?_, ?_, ?_⟩ <;> simp [World.cell?, h]
set_option maxHeartbeats 16000000 in
theorem openedButSeen_any {w : World} {a1 a2 a3 a4 : Option Addr} {c1 c2 c3 c4 : Nat} {H : Hp} (h : HpAt w (.slice a1 H.row.length c1) (.slice a2 H.roots.length c2) (.slice a3 H.mourned.length c3) (.slice a4 H.seen.length c4) H) (hs : hpSize H ≤ 1048576) (hI : HpI H) :
    Calls Tryz.prog 43 #[hpv H (.slice a1 H.row.length c1) (.slice a2 H.roots.length c2) (.slice a3 H.mourned.length c3) (.slice a4 H.seen.length c4)] w fun e w' => (openB a1 H = false → e = .returned (.tuple #[hov0, .bool false])) ∧ (openB a1 H = true → ∃ a5 c5, e = .returned (.tuple #[hov H (.slice a1 H.row.length c1) (.slice a2 H.roots.length c2) (.slice a3 H.mourned.length c3) (.slice a4 H.seen.length c4) (2 * H.half) (.slice a5 (objsP a1 H).length c5), .bool true]) ∧ OwnP w' w.heap.size (.slice a5 (objsP a1 H).length c5) (objsP a1 H)) ∧ Below w.heap.size w w' := by
  have HALL : Hid _ := hpX_all h
  have HNU : Hid (∀ V, HpAt V (.slice a1 H.row.length c1) (.slice a2 H.roots.length c2) (.slice a3 H.mourned.length c3) (.slice a4 H.seen.length c4) H → Calls Tryz.prog 58 #[hpv H (.slice a1 H.row.length c1) (.slice a2 H.roots.length c2) (.slice a3 H.mourned.length c3) (.slice a4 H.seen.length c4)] V fun e w' => e = .returned (.bool (numB H)) ∧ Below V.heap.size V w') := fun V hV => numbersOk_any hV
  have HSZ : Hid _ := hs
  have HII : Hid _ := hI
  clear h hs hI
  cases hn : numB H
  · have HO : Hid (openB a1 H = false) := by show _ = _; unfold openB; rw [hn]; rfl
    simp only [hn] at HNU
    clear hn
    go_enter Tryz.func43, Tryz.ntmps43
    go_upto_region 1 with fail
    generalize (w.alloc _).alloc _ = X at *
    obtain ⟨q0, _, hX, _, _⟩ := HALL.out X (Below.refl _ _)
    obtain ⟨z0, z1, z2, z3, z4, z5, z6, z7, z8⟩ := hpb_cells q0
    have NU := HNU.out X hX
    clear q0 hX
    go_wp2_with (go_at_call 58; refine NU.mono ?_; clear NU z0 z1 z2 z3 z4 z5 z6 z7 z8; rintro e w1 ⟨rfl, b1⟩; obtain ⟨_, q1, _, bw, s1⟩ := HALL.out w1 b1; obtain ⟨⟨g0, g1, g2, g3, g4, g5, g6, g7, g8, g9, g10⟩, f0, f1, f2, f3, f4, f5, f6, f7, f8, f9, f10⟩ := hob_cells q1; have HQ1 : Hid _ := q1; have HBW : Hid _ := bw; clear q1 bw b1)
    exact bodyPost_ret (res_ho rfl rfl rfl (hob_set HQ1.out hz s0 s0 s0 s0 0 s0)) rfl ⟨fun _ => rfl, fun e => absurd (HO.out.symm.trans e) (by decide), hob_below HBW.out (by omega) hz s0 s0 s0 s0 0 s0⟩
  simp only [hn] at HNU
  have HRO : Hid (∀ V, HpAt V (.slice a1 H.row.length c1) (.slice a2 H.roots.length c2) (.slice a3 H.mourned.length c3) (.slice a4 H.seen.length c4) H → Calls Tryz.prog 47 #[hpv H (.slice a1 H.row.length c1) (.slice a2 H.roots.length c2) (.slice a3 H.mourned.length c3) (.slice a4 H.seen.length c4)] V fun e w' => (roomB a1 H = false → e = .returned (.tuple #[.agg #[.int .i64 0, .slice none 0 0], .bool false])) ∧ (roomB a1 H = true → ∃ v', e = .returned (.tuple #[.agg #[.int .i64 (2 * H.half), v'], .bool true]) ∧ OwnP w' V.heap.size v' (objsP a1 H)) ∧ Below V.heap.size V w') := fun V hV => roomsOf_any hV hn HII.out.2.1
  go_enter Tryz.func43, Tryz.ntmps43
  go_upto_region 1 with fail
  generalize (w.alloc _).alloc _ = X at *
  obtain ⟨q0, _, hX, _, _⟩ := HALL.out X (Below.refl _ _)
  obtain ⟨z0, z1, z2, z3, z4, z5, z6, z7, z8⟩ := hpb_cells q0
  have NU := HNU.out X hX
  clear q0 hX
  go_upto_region 3 with (go_at_call 58; refine NU.mono ?_; clear NU z0 z1 z2 z3 z4 z5 z6 z7 z8; rintro e w1 ⟨rfl, b1⟩; have HB1 : Hid _ := b1; clear b1)
  obtain ⟨q0, _, h1, _, s1⟩ := HALL.out w1 HB1.out
  obtain ⟨z0, z1, z2, z3, z4, z5, z6, z7, z8⟩ := hpb_cells q0
  have RO := HRO.out w1 h1
  clear q0 h1 HNU HRO
  cases hr : roomB a1 H
  · have HO : Hid (openB a1 H = false) := by show _ = _; unfold openB; rw [hn, hr]; rfl
    have R0 := RO.mono (fun e w' (hh : _ ∧ _ ∧ _) => (⟨hh.1 hr, hh.2.2⟩ : e = .returned (.tuple #[.agg #[.int .i64 0, .slice none 0 0], .bool false]) ∧ Below w1.heap.size w1 w'))
    clear RO hr hn
    go_upto_region 4 with (go_at_call 47; refine R0.mono ?_; clear R0 z0 z1 z2 z3 z4 z5 z6 z7 z8; rintro e w2 ⟨rfl, b2⟩; have HB2 : Hid _ := b2; clear b2)
    have B3 : Below w2.heap.size w2 (w2.alloc (rmb 0 s0)) := (Below.refl _ _).alloc (Nat.le_refl _) _
    have B2 := HB1.out.trans (HB2.out.mono HB1.out.size)
    have HB3 : Hid _ := B2.trans (B3.mono B2.size)
    obtain ⟨q0, _⟩ := HALL.out _ HB3.out
    obtain ⟨z0, z1, z2, z3, z4, z5, z6, z7, z8⟩ := hpb_cells q0
    obtain ⟨⟨r0, r1⟩, _⟩ := rmb_cells (heap_alloc_new w2 (rmb 0 s0))
    clear B3 B2 q0
    generalize w2.alloc (rmb 0 s0) = W3 at *
    go_upto_region 5 with fail
    have B4 : Below W3.heap.size W3 (W3.alloc (hob H (.slice a1 H.row.length c1) (.slice a2 H.roots.length c2) (.slice a3 H.mourned.length c3) (.slice a4 H.seen.length c4) 0 s0)) := (Below.refl _ _).alloc (Nat.le_refl _) _
    obtain ⟨_, q1, _, bw, s3⟩ := HALL.out _ (HB3.out.trans (B4.mono HB3.out.size))
    obtain ⟨⟨g0, g1, g2, g3, g4, g5, g6, g7, g8, g9, g10⟩, f0, f1, f2, f3, f4, f5, f6, f7, f8, f9, f10⟩ := hob_cells q1
    have HQ1 : Hid _ := q1
    have HBW : Hid _ := bw
    clear q1 bw B4 z0 z1 z2 z3 z4 z5 z6 z7 z8 r0 r1
    generalize W3.alloc (hob H (.slice a1 H.row.length c1) (.slice a2 H.roots.length c2) (.slice a3 H.mourned.length c3) (.slice a4 H.seen.length c4) 0 s0) = Y at *
    go_wp2_with fail
    exact bodyPost_ret (res_ho rfl rfl rfl (hob_set HQ1.out hz s0 s0 s0 s0 0 s0)) rfl ⟨fun _ => rfl, fun e => absurd (HO.out.symm.trans e) (by decide), hob_below HBW.out (by omega) hz s0 s0 s0 s0 0 s0⟩
  have R0 := RO.mono (fun e w' (hh : _ ∧ _ ∧ _) => (⟨hh.2.1 hr, hh.2.2⟩ : (∃ v', e = .returned (.tuple #[.agg #[.int .i64 (2 * H.half), v'], .bool true]) ∧ OwnP w' w1.heap.size v' (objsP a1 H)) ∧ Below w1.heap.size w1 w'))
  clear RO
  have HO : Hid (openB a1 H = (holdS (objsP a1 H) (slP H.row) && endsOk H ((objsP a1 H).map (·.pl)) && lstB H (objsP a1 H))) := by show _ = _; unfold openB; rw [hn, hr, Bool.true_and, Bool.true_and]
  have HNR : Hid (numB H = true ∧ roomB a1 H = true) := ⟨hn, hr⟩
  have HRA : Hid (∀ V v, HpAt V (.slice a1 H.row.length c1) (.slice a2 H.roots.length c2) (.slice a3 H.mourned.length c3) (.slice a4 H.seen.length c4) H → PdsAt V v (objsP a1 H) → RoomsAt V v (objsP a1 H) (slP H.row)) := fun V v h1 h2 => roomsAt_of h1.1 hn hr HII.out.2.1 h2
  have HNT : Hid (holdS (objsP a1 H) (slP H.row) = true → NoteP (objsP a1 H) (slP H.row) (ntH H) (nxH H)) := fun hS => noteP_of hn hr hS
  have HEN : Hid (holdS (objsP a1 H) (slP H.row) = true → (endsOk H ((objsP a1 H).map (·.pl)) = true ↔ ∀ i, i < (objsP a1 H).length → Fins (ntH H) (nxH H) ((objsP a1 H).getD i pdD).pl)) := fun hS => ends_iff hr hS
  clear hn hr
  go_upto_region 4 with (go_at_call 47; refine R0.mono ?_; clear R0 z0 z1 z2 z3 z4 z5 z6 z7 z8; rintro e w2 ⟨⟨v2, rfl, O2⟩, b2⟩; have HB2 : Hid _ := b2; have HO2 : Hid _ := O2; obtain ⟨a5, c5, rfl⟩ := pds_slice (ownP_at O2); clear b2 O2)
  have B3 : Below w2.heap.size w2 (w2.alloc (rmb (2 * H.half) (.slice a5 (objsP a1 H).length c5))) := (Below.refl _ _).alloc (Nat.le_refl _) _
  have B2 := HB1.out.trans (HB2.out.mono HB1.out.size)
  have HBa : Hid _ := B2.trans (B3.mono B2.size)
  have HOa : Hid _ := ownP_below HO2.out B3
  obtain ⟨q0, _⟩ := HALL.out _ HBa.out
  obtain ⟨z0, z1, z2, z3, z4, z5, z6, z7, z8⟩ := hpb_cells q0
  obtain ⟨⟨r0, r1⟩, _⟩ := rmb_cells (heap_alloc_new w2 (rmb (2 * H.half) (.slice a5 (objsP a1 H).length c5)))
  clear B3 B2 q0 HO2 HB2
  generalize w2.alloc (rmb (2 * H.half) (.slice a5 (objsP a1 H).length c5)) = W3 at *
  go_upto_region 5 with fail
  have B4 : Below W3.heap.size W3 (W3.alloc (hob H (.slice a1 H.row.length c1) (.slice a2 H.roots.length c2) (.slice a3 H.mourned.length c3) (.slice a4 H.seen.length c4) (2 * H.half) (.slice a5 (objsP a1 H).length c5))) := (Below.refl _ _).alloc (Nat.le_refl _) _
  have HB3 : Hid (Below X.heap.size X (W3.alloc (hob H (.slice a1 H.row.length c1) (.slice a2 H.roots.length c2) (.slice a3 H.mourned.length c3) (.slice a4 H.seen.length c4) (2 * H.half) (.slice a5 (objsP a1 H).length c5)))) := HBa.out.trans (B4.mono HBa.out.size)
  have HQ3 : Hid _ := heap_alloc_new W3 (hob H (.slice a1 H.row.length c1) (.slice a2 H.roots.length c2) (.slice a3 H.mourned.length c3) (.slice a4 H.seen.length c4) (2 * H.half) (.slice a5 (objsP a1 H).length c5))
  have HO3 : Hid _ := ownP_below HOa.out B4
  clear B4 z0 z1 z2 z3 z4 z5 z6 z7 z8 r0 r1 HOa HBa
  generalize W3.alloc (hob H (.slice a1 H.row.length c1) (.slice a2 H.roots.length c2) (.slice a3 H.mourned.length c3) (.slice a4 H.seen.length c4) (2 * H.half) (.slice a5 (objsP a1 H).length c5)) = Y at *
  generalize W3.heap.size = n3 at *
  have HY : Hid (∀ V, Below Y.heap.size Y V → V.heap[n3]? = some (hob H (.slice a1 H.row.length c1) (.slice a2 H.roots.length c2) (.slice a3 H.mourned.length c3) (.slice a4 H.seen.length c4) (2 * H.half) (.slice a5 (objsP a1 H).length c5)) ∧ V.heap[w.heap.size + 1]? = some (hob hz s0 s0 s0 s0 0 s0) ∧ HpAt V (.slice a1 H.row.length c1) (.slice a2 H.roots.length c2) (.slice a3 H.mourned.length c3) (.slice a4 H.seen.length c4) H ∧ RoomsAt V (.slice a5 (objsP a1 H).length c5) (objsP a1 H) (slP H.row) ∧ OwnP V w1.heap.size (.slice a5 (objsP a1 H).length c5) (objsP a1 H) ∧ Below w.heap.size w V ∧ w.heap.size + 2 ≤ V.heap.size) := by
    intro V hV
    obtain ⟨_, k1, k2, k3, k4⟩ := HALL.out V (HB3.out.trans (hV.mono HB3.out.size))
    exact ⟨(hV.block _ (lt_of_block HQ3.out)).trans HQ3.out, k1, k2, HRA.out V _ k2 (ownP_at (ownP_below HO3.out hV)), ownP_below HO3.out hV, k3, k4⟩
  have HS1 : Hid (∀ V, RoomsAt V (.slice a5 (objsP a1 H).length c5) (objsP a1 H) (slP H.row) → Calls Tryz.prog 59 #[rmv (2 * H.half) (.slice a5 (objsP a1 H).length c5)] V fun e w' => e = .returned (.bool (holdS (objsP a1 H) (slP H.row))) ∧ Below V.heap.size V w') := fun V r => holdsSlots_any r.pds r.slices r.rise (Nat.le_trans r.len (by decide)) r.slots
  have HS2 : Hid (holdS (objsP a1 H) (slP H.row) = true → ∀ V, RoomsAt V (.slice a5 (objsP a1 H).length c5) (objsP a1 H) (slP H.row) → Calls Tryz.prog 60 #[rmv (2 * H.half) (.slice a5 (objsP a1 H).length c5)] V fun e w' => e = .returned (.bool (endsOk H ((objsP a1 H).map (·.pl)))) ∧ Below V.heap.size V w') := fun hS V r => notesEnd_any r.pds r.slices r.rise (Nat.le_trans r.len (by decide)) r.slots (HNT.out hS) (HEN.out hS)
  have HS3 : Hid (∀ V, HpAt V (.slice a1 H.row.length c1) (.slice a2 H.roots.length c2) (.slice a3 H.mourned.length c3) (.slice a4 H.seen.length c4) H → RoomsAt V (.slice a5 (objsP a1 H).length c5) (objsP a1 H) (slP H.row) → Calls Tryz.prog 61 #[hov H (.slice a1 H.row.length c1) (.slice a2 H.roots.length c2) (.slice a3 H.mourned.length c3) (.slice a4 H.seen.length c4) (2 * H.half) (.slice a5 (objsP a1 H).length c5)] V fun e w' => e = .returned (.bool (lstB H (objsP a1 H))) ∧ Below V.heap.size V w') := fun V h1 r => listsOk_any h1 HSZ.out HII.out.2.2.1 HII.out.2.2.2.1 r
  obtain ⟨P1, hP1⟩ : ∃ P, holdS (objsP a1 H) (slP H.row) = P := ⟨_, rfl⟩
  obtain ⟨P2, hP2⟩ : ∃ P, endsOk H ((objsP a1 H).map (·.pl)) = P := ⟨_, rfl⟩
  obtain ⟨P3, hP3⟩ : ∃ P, lstB H (objsP a1 H) = P := ⟨_, rfl⟩
  rw [hP1, hP2, hP3] at HO
  simp only [hP1] at HS1 HS2
  simp only [hP2] at HS2
  simp only [hP3] at HS3
  clear hP1 hP2 hP3 HNT HEN HRA HALL HB1 HB3 HQ3 HO3 HNR HSZ HII
  obtain ⟨qY, _, hY, rY, _, _, _⟩ := HY.out Y (Below.refl _ _)
  obtain ⟨⟨m0, m1, m2, m3, m4, m5, m6, m7, m8, m9, m10⟩, _⟩ := hob_cells qY
  have C1 := HS1.out Y rY
  clear qY hY rY HS1
  cases P1
  · rw [Bool.false_and, Bool.false_and] at HO
    clear HS2 HS3
    go_wp2_with (go_at_call 59; refine C1.mono ?_; clear C1 m0 m1 m2 m3 m4 m5 m6 m7 m8 m9 m10; rintro e w5 ⟨rfl, b5⟩; obtain ⟨_, q1, _, _, _, bw, s5⟩ := HY.out w5 b5; obtain ⟨⟨g0, g1, g2, g3, g4, g5, g6, g7, g8, g9, g10⟩, f0, f1, f2, f3, f4, f5, f6, f7, f8, f9, f10⟩ := hob_cells q1; have HQ1 : Hid _ := q1; have HBW : Hid _ := bw; clear q1 bw b5)
    exact bodyPost_ret (res_ho rfl rfl rfl (hob_set HQ1.out hz s0 s0 s0 s0 0 s0)) rfl ⟨fun _ => rfl, fun e => absurd (HO.out.symm.trans e) (by decide), hob_below HBW.out (by omega) hz s0 s0 s0 s0 0 s0⟩
  rw [Bool.true_and] at HO
  cases P2
  · rw [Bool.false_and] at HO
    clear HS3
    go_wp2_with (first
      | (go_at_call 59; refine C1.mono ?_; clear C1 m0 m1 m2 m3 m4 m5 m6 m7 m8 m9 m10; rintro e w5 ⟨rfl, b5⟩; obtain ⟨qY, _, _, rY, _⟩ := HY.out w5 b5; obtain ⟨⟨m0, m1, m2, m3, m4, m5, m6, m7, m8, m9, m10⟩, _⟩ := hob_cells qY; have C2 := HS2.out (by trivial) w5 rY; have HB5 : Hid _ := b5; clear b5 qY rY HS2)
      | (go_at_call 60; refine C2.mono ?_; clear C2 m0 m1 m2 m3 m4 m5 m6 m7 m8 m9 m10; rintro e w6 ⟨rfl, b6⟩; obtain ⟨_, q1, _, _, _, bw, s6⟩ := HY.out w6 (HB5.out.trans (b6.mono HB5.out.size)); obtain ⟨⟨g0, g1, g2, g3, g4, g5, g6, g7, g8, g9, g10⟩, f0, f1, f2, f3, f4, f5, f6, f7, f8, f9, f10⟩ := hob_cells q1; have HQ1 : Hid _ := q1; have HBW : Hid _ := bw; clear q1 bw b6))
    exact bodyPost_ret (res_ho rfl rfl rfl (hob_set HQ1.out hz s0 s0 s0 s0 0 s0)) rfl ⟨fun _ => rfl, fun e => absurd (HO.out.symm.trans e) (by decide), hob_below HBW.out (by omega) hz s0 s0 s0 s0 0 s0⟩
  rw [Bool.true_and] at HO
  cases P3
  · go_wp2_with (first
      | (go_at_call 59; refine C1.mono ?_; clear C1 m0 m1 m2 m3 m4 m5 m6 m7 m8 m9 m10; rintro e w5 ⟨rfl, b5⟩; obtain ⟨qY, _, _, rY, _⟩ := HY.out w5 b5; obtain ⟨⟨m0, m1, m2, m3, m4, m5, m6, m7, m8, m9, m10⟩, _⟩ := hob_cells qY; have C2 := HS2.out (by trivial) w5 rY; have HB5 : Hid _ := b5; clear b5 qY rY HS2)
      | (go_at_call 60; refine C2.mono ?_; clear C2 m0 m1 m2 m3 m4 m5 m6 m7 m8 m9 m10; rintro e w6 ⟨rfl, b6⟩; have HB6 : Hid _ := HB5.out.trans (b6.mono HB5.out.size); obtain ⟨qY, _, hY, rY, _⟩ := HY.out w6 HB6.out; obtain ⟨⟨m0, m1, m2, m3, m4, m5, m6, m7, m8, m9, m10⟩, _⟩ := hob_cells qY; have C3 := HS3.out w6 hY rY; clear b6 qY hY rY HS3)
      | (go_at_call 61; refine C3.mono ?_; clear C3 m0 m1 m2 m3 m4 m5 m6 m7 m8 m9 m10; rintro e w7 ⟨rfl, b7⟩; obtain ⟨_, q1, _, _, _, bw, s7⟩ := HY.out w7 (HB6.out.trans (b7.mono HB6.out.size)); obtain ⟨⟨g0, g1, g2, g3, g4, g5, g6, g7, g8, g9, g10⟩, f0, f1, f2, f3, f4, f5, f6, f7, f8, f9, f10⟩ := hob_cells q1; have HQ1 : Hid _ := q1; have HBW : Hid _ := bw; clear q1 bw b7))
    exact bodyPost_ret (res_ho rfl rfl rfl (hob_set HQ1.out hz s0 s0 s0 s0 0 s0)) rfl ⟨fun _ => rfl, fun e => absurd (HO.out.symm.trans e) (by decide), hob_below HBW.out (by omega) hz s0 s0 s0 s0 0 s0⟩
  go_wp2_with (first
    | (go_at_call 59; refine C1.mono ?_; clear C1 m0 m1 m2 m3 m4 m5 m6 m7 m8 m9 m10; rintro e w5 ⟨rfl, b5⟩; obtain ⟨qY, _, _, rY, _⟩ := HY.out w5 b5; obtain ⟨⟨m0, m1, m2, m3, m4, m5, m6, m7, m8, m9, m10⟩, _⟩ := hob_cells qY; have C2 := HS2.out (by trivial) w5 rY; have HB5 : Hid _ := b5; clear b5 qY rY HS2)
    | (go_at_call 60; refine C2.mono ?_; clear C2 m0 m1 m2 m3 m4 m5 m6 m7 m8 m9 m10; rintro e w6 ⟨rfl, b6⟩; have HB6 : Hid _ := HB5.out.trans (b6.mono HB5.out.size); obtain ⟨qY, _, hY, rY, _⟩ := HY.out w6 HB6.out; obtain ⟨⟨m0, m1, m2, m3, m4, m5, m6, m7, m8, m9, m10⟩, _⟩ := hob_cells qY; have C3 := HS3.out w6 hY rY; clear b6 qY hY rY HS3)
    | (go_at_call 61; refine C3.mono ?_; clear C3 m0 m1 m2 m3 m4 m5 m6 m7 m8 m9 m10; rintro e w7 ⟨rfl, b7⟩; obtain ⟨qY, q1, _, _, o7, bw, s7⟩ := HY.out w7 (HB6.out.trans (b7.mono HB6.out.size)); obtain ⟨⟨g0, g1, g2, g3, g4, g5, g6, g7, g8, g9, g10⟩, f0, f1, f2, f3, f4, f5, f6, f7, f8, f9, f10⟩ := hob_cells q1; obtain ⟨⟨m0, m1, m2, m3, m4, m5, m6, m7, m8, m9, m10⟩, _⟩ := hob_cells qY; have HQ1 : Hid _ := q1; have HBW : Hid _ := bw; have HO7 : Hid _ := o7; clear q1 qY bw b7 o7))
  refine bodyPost_ret (res_ho rfl rfl rfl (hob_set HQ1.out H (.slice a1 H.row.length c1) (.slice a2 H.roots.length c2) (.slice a3 H.mourned.length c3) (.slice a4 H.seen.length c4) (2 * H.half) (.slice a5 (objsP a1 H).length c5))) rfl ⟨fun e => absurd (HO.out.symm.trans e) (by decide), fun _ => ⟨a5, c5, rfl, ?_⟩, hob_below HBW.out (by omega) H (.slice a1 H.row.length c1) (.slice a2 H.roots.length c2) (.slice a3 H.mourned.length c3) (.slice a4 H.seen.length c4) (2 * H.half) (.slice a5 (objsP a1 H).length c5)⟩
  refine ownP_base (row_ch (S := [w.heap.size + 1]) HO7.out (hob_ch _ _ _ _ _ _ _ _ _) (fun k hk => ?_)) (by omega)
  have := (blk_lt HO7.out k hk).1
  simp
  omega
end Go.Proofs.YtfbopegdldoocaaGreat.hp
namespace Go.Proofs.YtfbopegdldoocaaGreat.hp
open Go.RowKit rows heads words walks
set_option maxRecDepth 100000
set_option linter.unusedVariables false
set_option linter.unusedSimpArgs false

/-- What opened answers. -/
def OpenR (w : World) (a1 a2 a3 a4 : Option Addr) (c1 c2 c3 c4 : Nat) (H : Hp) (e : Ending) (w' : World) : Prop := (heapOk H = false → e = .returned (.tuple #[hov0, .bool false])) ∧ (heapOk H = true → ∃ a5 c5, e = .returned (.tuple #[hov H (.slice a1 H.row.length c1) (.slice a2 H.roots.length c2) (.slice a3 H.mourned.length c3) (.slice a4 H.seen.length c4) (2 * H.half) (.slice a5 (objsP a1 H).length c5), .bool true]) ∧ OwnP w' w.heap.size (.slice a5 (objsP a1 H).length c5) (objsP a1 H)) ∧ Below w.heap.size w w'
set_option maxHeartbeats 16000000 in
theorem opened_any {w : World} {a1 a2 a3 a4 : Option Addr} {c1 c2 c3 c4 : Nat} {H : Hp} (h : HpAt w (.slice a1 H.row.length c1) (.slice a2 H.roots.length c2) (.slice a3 H.mourned.length c3) (.slice a4 H.seen.length c4) H) (hs : hpSize H ≤ 1048576) (hI : HpI H) :
    Calls Tryz.prog 25 #[hpv H (.slice a1 H.row.length c1) (.slice a2 H.roots.length c2) (.slice a3 H.mourned.length c3) (.slice a4 H.seen.length c4)] w (OpenR w a1 a2 a3 a4 c1 c2 c3 c4 H) := by
  unfold OpenR
  have HOK : Hid _ := okB_is a1 H
  have HALL : Hid _ := hpX_all h
  have HOB : Hid (∀ V, HpAt V (.slice a1 H.row.length c1) (.slice a2 H.roots.length c2) (.slice a3 H.mourned.length c3) (.slice a4 H.seen.length c4) H → Calls Tryz.prog 43 #[hpv H (.slice a1 H.row.length c1) (.slice a2 H.roots.length c2) (.slice a3 H.mourned.length c3) (.slice a4 H.seen.length c4)] V fun e w' => (openB a1 H = false → e = .returned (.tuple #[hov0, .bool false])) ∧ (openB a1 H = true → ∃ a5 c5, e = .returned (.tuple #[hov H (.slice a1 H.row.length c1) (.slice a2 H.roots.length c2) (.slice a3 H.mourned.length c3) (.slice a4 H.seen.length c4) (2 * H.half) (.slice a5 (objsP a1 H).length c5), .bool true]) ∧ OwnP w' V.heap.size (.slice a5 (objsP a1 H).length c5) (objsP a1 H)) ∧ Below V.heap.size V w') := fun V hV => openedButSeen_any hV hs hI
  have HII : Hid _ := hI
  have HSZ : Hid (H.seen.length ≤ 1048576) := by unfold hpSize at hs; show _ ≤ _; omega
  clear h hs hI
  go_enter Tryz.func25, Tryz.ntmps25
  go_upto_region 1 with fail
  generalize (w.alloc _).alloc _ = X at *
  obtain ⟨q0, _, hX, _, _⟩ := HALL.out X (Below.refl _ _)
  obtain ⟨z0, z1, z2, z3, z4, z5, z6, z7, z8⟩ := hpb_cells q0
  have OX := HOB.out X hX
  clear q0 hX HOB
  cases ho : openB a1 H
  · have HO : Hid (heapOk H = false) := by show _ = _; rw [← HOK.out]; unfold okB; rw [ho]; rfl
    have R0 := OX.mono (fun e w' (hh : _ ∧ _ ∧ _) => (⟨hh.1 ho, hh.2.2⟩ : e = .returned (.tuple #[hov0, .bool false]) ∧ Below X.heap.size X w'))
    clear OX ho HOK
    go_upto_region 2 with (go_at_call 43; refine R0.mono ?_; clear R0 z0 z1 z2 z3 z4 z5 z6 z7 z8; rintro e w1 ⟨rfl, b1⟩; have HB1 : Hid _ := b1; clear b1)
    have B2 : Below w1.heap.size w1 (w1.alloc (hob hz s0 s0 s0 s0 0 s0)) := (Below.refl _ _).alloc (Nat.le_refl _) _
    have HB2 : Hid _ := HB1.out.trans (B2.mono HB1.out.size)
    clear B2
    generalize w1.alloc (hob hz s0 s0 s0 s0 0 s0) = Y at *
    go_quiet (fail)
    have HD : Hid (Below Y.heap.size Y (Y.drewN nq)) := bel_of_drewN ⟨_, rfl⟩
    generalize Y.drewN nq = Y1 at *
    obtain ⟨_, q1, _, bw, s3⟩ := HALL.out Y1 (HB2.out.trans (HD.out.mono HB2.out.size))
    obtain ⟨⟨g0, g1, g2, g3, g4, g5, g6, g7, g8, g9, g10⟩, f0, f1, f2, f3, f4, f5, f6, f7, f8, f9, f10⟩ := hob_cells q1
    have HQ1 : Hid _ := q1
    have HBW : Hid _ := bw
    clear q1 bw
    go_wp2_with fail
    exact bodyPost_ret (res_ho rfl rfl rfl (hob_set HQ1.out hz s0 s0 s0 s0 0 s0)) rfl ⟨fun _ => rfl, fun e => absurd (HO.out.symm.trans e) (by decide), hob_below HBW.out (by omega) hz s0 s0 s0 s0 0 s0⟩
  have R0 := OX.mono (fun e w' (hh : _ ∧ _ ∧ _) => (⟨hh.2.1 ho, hh.2.2⟩ : (∃ a5 c5, e = .returned (.tuple #[hov H (.slice a1 H.row.length c1) (.slice a2 H.roots.length c2) (.slice a3 H.mourned.length c3) (.slice a4 H.seen.length c4) (2 * H.half) (.slice a5 (objsP a1 H).length c5), .bool true]) ∧ OwnP w' X.heap.size (.slice a5 (objsP a1 H).length c5) (objsP a1 H)) ∧ Below X.heap.size X w'))
  obtain ⟨hn, hr, _⟩ := openB_parts ho
  have HO : Hid (heapOk H = decide (H.seen = mustL (2 * H.half) (slP H.row) (objsP a1 H))) := by show _ = _; rw [← HOK.out]; unfold okB; rw [ho]; rfl
  have HRA : Hid (∀ V v, HpAt V (.slice a1 H.row.length c1) (.slice a2 H.roots.length c2) (.slice a3 H.mourned.length c3) (.slice a4 H.seen.length c4) H → PdsAt V v (objsP a1 H) → RoomsAt V v (objsP a1 H) (slP H.row)) := fun V v h1 h2 => roomsAt_of h1.1 hn hr HII.out.2.1 h2
  clear OX ho HOK hn hr
  go_upto_region 2 with (go_at_call 43; refine R0.mono ?_; clear R0 z0 z1 z2 z3 z4 z5 z6 z7 z8; rintro e w1 ⟨⟨a5, c5, rfl, O1⟩, b1⟩; have HB1 : Hid _ := b1; have HO1 : Hid _ := O1; clear b1 O1)
  have B2 : Below w1.heap.size w1 (w1.alloc (hob H (.slice a1 H.row.length c1) (.slice a2 H.roots.length c2) (.slice a3 H.mourned.length c3) (.slice a4 H.seen.length c4) (2 * H.half) (.slice a5 (objsP a1 H).length c5))) := (Below.refl _ _).alloc (Nat.le_refl _) _
  have HB2 : Hid _ := HB1.out.trans (B2.mono HB1.out.size)
  have HQ2 : Hid _ := heap_alloc_new w1 (hob H (.slice a1 H.row.length c1) (.slice a2 H.roots.length c2) (.slice a3 H.mourned.length c3) (.slice a4 H.seen.length c4) (2 * H.half) (.slice a5 (objsP a1 H).length c5))
  have HO2 : Hid _ := ownP_below HO1.out B2
  clear B2 HO1
  generalize w1.alloc (hob H (.slice a1 H.row.length c1) (.slice a2 H.roots.length c2) (.slice a3 H.mourned.length c3) (.slice a4 H.seen.length c4) (2 * H.half) (.slice a5 (objsP a1 H).length c5)) = Y at *
  generalize w1.heap.size = n1 at *
  have HY : Hid (∀ V, Below Y.heap.size Y V → V.heap[n1]? = some (hob H (.slice a1 H.row.length c1) (.slice a2 H.roots.length c2) (.slice a3 H.mourned.length c3) (.slice a4 H.seen.length c4) (2 * H.half) (.slice a5 (objsP a1 H).length c5)) ∧ V.heap[w.heap.size + 1]? = some (hob hz s0 s0 s0 s0 0 s0) ∧ HpAt V (.slice a1 H.row.length c1) (.slice a2 H.roots.length c2) (.slice a3 H.mourned.length c3) (.slice a4 H.seen.length c4) H ∧ RoomsAt V (.slice a5 (objsP a1 H).length c5) (objsP a1 H) (slP H.row) ∧ OwnP V X.heap.size (.slice a5 (objsP a1 H).length c5) (objsP a1 H) ∧ Below w.heap.size w V ∧ w.heap.size + 2 ≤ V.heap.size) := by
    intro V hV
    obtain ⟨_, k1, k2, k3, k4⟩ := HALL.out V (HB2.out.trans (hV.mono HB2.out.size))
    exact ⟨(hV.block _ (lt_of_block HQ2.out)).trans HQ2.out, k1, k2, HRA.out V _ k2 (ownP_at (ownP_below HO2.out hV)), ownP_below HO2.out hV, k3, k4⟩
  have HM : Hid (∀ V, Below Y.heap.size Y V → Calls Tryz.prog 45 #[rmv (2 * H.half) (.slice a5 (objsP a1 H).length c5)] V fun e w' => ∃ u, e = .returned u ∧ rows.Own w' V.heap.size u (mustL (2 * H.half) (slP H.row) (objsP a1 H)) ∧ Below V.heap.size V w') := fun V hV => by
    obtain ⟨_, _, _, r, _⟩ := HY.out V hV
    exact mustSee_any r.pds r.slices (Nat.le_trans r.len (by decide)) r.slots
  have HE : Hid (∀ V u, Below Y.heap.size Y V → IntsAt V u (mustL (2 * H.half) (slP H.row) (objsP a1 H)) → Calls Tryz.prog 44 #[.slice a4 H.seen.length c4, u] V fun e w' => e = .returned (.bool (heapOk H)) ∧ Below V.heap.size V w') := fun V u hV hu => by
    obtain ⟨_, _, k2, r, _⟩ := HY.out V hV
    have := equal_any k2.2.2.2 hu HSZ.out (Nat.le_trans (mustL_len _ _ _) (Nat.le_trans r.len (by decide)))
    rwa [← HO.out] at this
  have sX2 : w.heap.size + 2 ≤ X.heap.size := (HALL.out X (Below.refl _ _)).2.2.2.2
  obtain ⟨P, hP⟩ : ∃ P, heapOk H = P := ⟨_, rfl⟩
  simp only [hP] at HE
  have HPP : Hid _ := hP
  clear HO HRA HALL HB1 HB2 HQ2 HO2 HII HSZ hP
  obtain ⟨qY, _⟩ := HY.out Y (Below.refl _ _)
  obtain ⟨⟨m0, m1, m2, m3, m4, m5, m6, m7, m8, m9, m10⟩, _⟩ := hob_cells qY
  clear qY
  go_cut [22] from 11 to 22 (fun v wz => v = .bool (!P) ∧ Hid (Below Y.heap.size Y wz))
  case first =>
    have HG : Hid (∀ (V w' : World), Below V.heap.size V w' → Below Y.heap.size Y V → w'.heap[n1]? = some (hob H (.slice a1 H.row.length c1) (.slice a2 H.roots.length c2) (.slice a3 H.mourned.length c3) (.slice a4 H.seen.length c4) (2 * H.half) (.slice a5 (objsP a1 H).length c5)) ∧ Below Y.heap.size Y w') := by
      intro V w' h1 h2
      have h3 : Below Y.heap.size Y w' := h2.trans (h1.mono h2.size)
      exact ⟨(HY.out w' h3).1, h3⟩
    go_region_law (first
      | (go_simp; go_at_call 45; refine Calls.mono (HM.out _ ⟨rfl, rfl, rfl, Nat.le_refl _, fun _ _ => rfl⟩) ?_; rintro e w5 ⟨u5, rfl, o5, b5⟩; obtain ⟨q5, x5⟩ := HG.out _ _ b5 ⟨rfl, rfl, rfl, Nat.le_refl _, fun _ _ => rfl⟩; obtain ⟨⟨p0, p1, p2, p3, p4, p5, p6, p7, p8, p9, p10⟩, _⟩ := hob_cells q5; have HO5 : Hid _ := own_ints o5; obtain ⟨ua, uc, hu5, _⟩ := own_ints o5; subst hu5; have HX5 : Hid _ := x5; clear HM o5 b5 q5 x5)
      | (go_simp; go_at_call 44; refine Calls.mono (HE.out _ _ ⟨HX5.out.os, HX5.out.tape, HX5.out.output, HX5.out.size, HX5.out.block⟩ HO5.out) ?_; rintro e w6 ⟨rfl, b6⟩; have HX6 : Hid (Below Y.heap.size Y w6) := (HG.out w5 w6 ⟨b6.os, b6.tape, b6.output, b6.size, b6.block⟩ HX5.out).2; clear HE b6))
    all_goals (go_wp2_with fail)
    all_goals (go_meet; exact ⟨rfl, HX6.out⟩)
  obtain ⟨rfl, bc⟩ := hcut
  clear m0 m1 m2 m3 m4 m5 m6 m7 m8 m9 m10 HM HE
  obtain ⟨qY, q1, _, _, o7, bw, s7⟩ := HY.out wc bc.out
  obtain ⟨⟨g0, g1, g2, g3, g4, g5, g6, g7, g8, g9, g10⟩, f0, f1, f2, f3, f4, f5, f6, f7, f8, f9, f10⟩ := hob_cells q1
  have HQ1 : Hid _ := q1
  have HBW : Hid _ := bw
  have HO7 : Hid _ := o7
  cases P
  · clear q1 qY bw o7
    go_wp2_with fail
    exact bodyPost_ret (res_ho rfl rfl rfl (hob_set HQ1.out hz s0 s0 s0 s0 0 s0)) rfl ⟨fun _ => rfl, fun e => absurd (HPP.out.symm.trans e) (by decide), hob_below HBW.out (by omega) hz s0 s0 s0 s0 0 s0⟩
  · obtain ⟨⟨m0, m1, m2, m3, m4, m5, m6, m7, m8, m9, m10⟩, _⟩ := hob_cells qY
    clear q1 qY bw o7
    go_wp2_with fail
    refine bodyPost_ret (res_ho rfl rfl rfl (hob_set HQ1.out H (.slice a1 H.row.length c1) (.slice a2 H.roots.length c2) (.slice a3 H.mourned.length c3) (.slice a4 H.seen.length c4) (2 * H.half) (.slice a5 (objsP a1 H).length c5))) rfl ⟨fun e => absurd (HPP.out.symm.trans e) (by decide), fun _ => ⟨a5, c5, rfl, ?_⟩, hob_below HBW.out (by omega) H (.slice a1 H.row.length c1) (.slice a2 H.roots.length c2) (.slice a3 H.mourned.length c3) (.slice a4 H.seen.length c4) (2 * H.half) (.slice a5 (objsP a1 H).length c5)⟩
    refine ownP_base (row_ch (S := [w.heap.size + 1]) HO7.out (hob_ch _ _ _ _ _ _ _ _ _) (fun k hk => ?_)) (by omega)
    have := (blk_lt HO7.out k hk).1
    simp
    omega
theorem hp_all {w : World} {vr vo vm vs : Value} {H : Hp} (h : HpAt w vr vo vm vs H) : Below w.heap.size w (w.alloc (hpb H vr vo vm vs)) ∧ (w.alloc (hpb H vr vo vm vs)).heap[w.heap.size]? = some (hpb H vr vo vm vs) ∧ HpAt (w.alloc (hpb H vr vo vm vs)) vr vo vm vs H := by
  have B0 : Below w.heap.size w (w.alloc (hpb H vr vo vm vs)) := (Below.refl _ _).alloc (Nat.le_refl _) _
  exact ⟨B0, heap_alloc_new _ _, hpAt_below h B0⟩
end Go.Proofs.YtfbopegdldoocaaGreat.hp
