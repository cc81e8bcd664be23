/-
  A heap of the laws made a heap of the program; its size; two that are the same. Chapter 9 as lists: which heaps are right. Chapter 9 as the specification has it: the places of all chunks. A region that leaves its order open and whose calls make memory: by the class of the worlds that grow out of one (for seats without graphs). 'copy' and 'clear' on slices whose elements take more than one cell. Chunks in memory: a block that holds one; what is read and stored of it. What the program asks of a row, and a piece cut off one. What the program's ReadAt answers. What the program's headAt and sizeBy answer. What the program's chunkOf and ChunkAt answer. A copy by make and copy: a block of its own that holds just these numbers. What the program's ObjectAt answers where there is no object; the words of a chunk. Chapter 8 as the program has it: a free chunk written into a row.
-/
import Derived.Test.YtmhbdmmpmagbkaaGreatM1
import Derived.Deep.RegionLaw
import Derived.Deep.Cut
import Derived.Deep.CutRange
import Derived.Maps.AppendAt
import Derived.Deep.QuietTactic
import Derived.BigQuiet
import Derived.Test.YtmhbdmmpmagbkaaGreatProg
import Derived.Laws.CopyOwn
import Derived.Test.YtmhbdmmpmagbkaaGreatHeadMem
import Derived.Test.YtmhbdmmpmagbkaaGreatRowsS
import Derived.Test.YtmhbdmmpmagbkaaGreatReadS
import Derived.Test.YtmhbdmmpmagbkaaGreatWalkD
import Derived.Test.YtmhbdmmpmagbkaaGreatInts
import Derived.Test.YtmhbdmmpmagbkaaGreatObjS
import Derived.Test.YtmhbdmmpmagbkaaGreatPack
namespace Go.Proofs.YtmhbdmmpmagbkaaGreat.hp
open Go.RowKit rows heads words walks
set_option maxRecDepth 100000
set_option linter.unusedVariables false

theorem hp_parts {H : Hp} (h : hpSize H ≤ 1048576) : H.row.length ≤ 1048576 ∧ H.roots.length ≤ 1048576 ∧ H.mourned.length ≤ 1048576 ∧ H.seen.length ≤ 1048576 := by
  unfold hpSize at h
  omega
theorem full_ch {S : List Nat} {w w' : World} {b : Nat} {xs : List Int} (h : Full w b xs) (hc : Ch S w w') (hb : b ∉ S) : Full w' b xs := (hc.block b (lt_of_block h) hb).trans h
theorem full_belo {w w' : World} {b : Nat} {xs : List Int} (h : Full w b xs) (hb : Below w.heap.size w w') : Full w' b xs := (hb.block b (lt_of_block h)).trans h

set_option maxHeartbeats 8000000 in
theorem toHeap_any {w : World} {vr vo vm vs : Value} {H : Hp} (h : HpAt w vr vo vm vs H) (hs : hpSize H ≤ 1048576) :
    Calls Tryz.prog 11 #[hpv H vr vo vm vs] w fun e w' => ∃ (vr' vo' vm' vs' : Value), e = .returned (hpv H vr' vo' vm' vs') ∧ OwnH w' w.heap.size vr' vo' vm' vs' H ∧ Below w.heap.size w w' := by
  obtain ⟨l1, l2, l3, l4⟩ := hp_parts hs
  obtain ⟨a1, c1, a2, c2, a3, c3, a4, c4, e1, e2, e3, e4⟩ := hpAt_slices h
  subst e1 e2 e3 e4
  obtain ⟨X, hX⟩ : ∃ X, X = ((w.alloc (.cells #[.int .i64 H.half, .int .i64 H.old, .slice a1 H.row.length c1, .int .i64 H.side, .int .i64 H.top, .slice a2 H.roots.length c2, .slice a3 H.mourned.length c3, .slice a4 H.seen.length c4, .int .i64 H.seed] 24)).alloc (.cells #[.int .i64 0, .int .i64 0, .slice none 0 0, .int .i64 0, .int .i64 0, .slice none 0 0, .slice none 0 0, .slice none 0 0, .int .i64 0] 31)).alloc (.cells #[.int .i64 H.half, .int .i64 H.old, .slice none 0 0, .int .i64 0, .int .i64 0, .slice none 0 0, .slice none 0 0, .slice none 0 0, .int .i64 0] 31) := ⟨_, rfl⟩
  have HX : Hid _ := hX
  have BX : Below w.heap.size w X := by
    rw [hX]
    exact (((Below.refl _ w).alloc (Nat.le_refl _) _).alloc (by simp) _).alloc (by simp; omega) _
  have sX : X.heap.size = w.heap.size + 3 := by rw [hX]; simp
  have T1 : Nine X w.heap.size 24 (.int .i64 H.half) (.int .i64 H.old) (.slice a1 H.row.length c1) (.int .i64 H.side) (.int .i64 H.top) (.slice a2 H.roots.length c2) (.slice a3 H.mourned.length c3) (.slice a4 H.seen.length c4) (.int .i64 H.seed) := by
    rw [hX]
    exact nine_below (nine_below (nine_mk w _ _ _ _ _ _ _ _ _ _) ((Below.refl _ _).alloc (Nat.le_refl _) _)) ((Below.refl _ _).alloc (Nat.le_refl _) _)
  have T2 : Nine X (w.heap.size + 1) 31 (.int .i64 0) (.int .i64 0) (.slice none 0 0) (.int .i64 0) (.int .i64 0) (.slice none 0 0) (.slice none 0 0) (.slice none 0 0) (.int .i64 0) := by
    rw [hX]
    have := nine_mk (w.alloc (.cells #[.int .i64 H.half, .int .i64 H.old, .slice a1 H.row.length c1, .int .i64 H.side, .int .i64 H.top, .slice a2 H.roots.length c2, .slice a3 H.mourned.length c3, .slice a4 H.seen.length c4, .int .i64 H.seed] 24)) 31 (.int .i64 0) (.int .i64 0) (.slice none 0 0) (.int .i64 0) (.int .i64 0) (.slice none 0 0) (.slice none 0 0) (.slice none 0 0) (.int .i64 0)
    have := nine_below this ((Below.refl _ _).alloc (Nat.le_refl _) (.cells #[.int .i64 H.half, .int .i64 H.old, .slice none 0 0, .int .i64 0, .int .i64 0, .slice none 0 0, .slice none 0 0, .slice none 0 0, .int .i64 0] 31))
    simpa using this
  have T3 : Nine X (w.heap.size + 1 + 1) 31 (.int .i64 H.half) (.int .i64 H.old) (.slice none 0 0) (.int .i64 0) (.int .i64 0) (.slice none 0 0) (.slice none 0 0) (.slice none 0 0) (.int .i64 0) := by
    rw [hX]
    have := nine_mk ((w.alloc (.cells #[.int .i64 H.half, .int .i64 H.old, .slice a1 H.row.length c1, .int .i64 H.side, .int .i64 H.top, .slice a2 H.roots.length c2, .slice a3 H.mourned.length c3, .slice a4 H.seen.length c4, .int .i64 H.seed] 24)).alloc (.cells #[.int .i64 0, .int .i64 0, .slice none 0 0, .int .i64 0, .int .i64 0, .slice none 0 0, .slice none 0 0, .slice none 0 0, .int .i64 0] 31)) 31 (.int .i64 H.half) (.int .i64 H.old) (.slice none 0 0) (.int .i64 0) (.int .i64 0) (.slice none 0 0) (.slice none 0 0) (.slice none 0 0) (.int .i64 0)
    simpa using this
  have TI := toInt64S_any (intsAt_below h.1 BX) l1
  have HA : Hid _ := h
  have g2 : w.heap.size ≤ w.heap.size + 1 := by omega
  have g3 : w.heap.size ≤ w.heap.size + 1 + 1 := by omega
  have n13 : w.heap.size ∉ [w.heap.size + 1 + 1] := by simp; omega
  have n23 : w.heap.size + 1 ∉ [w.heap.size + 1 + 1] := by simp
  have m13 : ¬ w.heap.size = w.heap.size + 1 + 1 := by omega
  have sX3 : w.heap.size + 1 + 1 < X.heap.size := by omega
  have sX1 : w.heap.size ≤ X.heap.size := by omega
  clear hX h sX
  go_enter Tryz.func11, Tryz.ntmps11
  go_wp2_with fail
  rw [← HX.out]
  generalize hb3 : w.heap.size + 1 + 1 = B3 at *
  generalize hb2 : w.heap.size + 1 = B2 at *
  refine TI.mono ?_
  rintro e w2 ⟨rfl, F1, b2⟩
  clear TI HX
  have s2 := lt_of_block F1
  have U1 := nine_below T1 b2
  have U2 := nine_below T2 b2
  have U3 := nine_below T3 b2
  have BW := BX.trans (b2.mono sX1)
  clear T1 T2 T3 BX b2
  generalize hQ1 : X.heap.size = q1 at *
  have V3 := nine_set4 (nine_set3 (nine_set2 U3 (.slice (some ⟨q1, 0, none⟩) H.row.length H.row.length)) (.int .i64 H.side)) (.int .i64 H.top)
  have C3 := ((one_ch w2 B3 2 (.slice (some ⟨q1, 0, none⟩) H.row.length H.row.length)).trans (one_ch _ B3 3 (.int .i64 H.side))).trans (one_ch _ B3 4 (.int .i64 H.top))
  have V1 := nine_ch U1 C3 n13
  have V2 := nine_ch U2 C3 n23
  have F1' := full_ch F1 C3 (by simp; omega)
  have BW' := ((BW.setCell (p := ⟨B3, 2, none⟩) g3 (.slice (some ⟨q1, 0, none⟩) H.row.length H.row.length)).setCell (p := ⟨B3, 3, none⟩) g3 (.int .i64 H.side)).setCell (p := ⟨B3, 4, none⟩) g3 (.int .i64 H.top)
  have sY : (((w2.setCell ⟨B3, 2, none⟩ (.slice (some ⟨q1, 0, none⟩) H.row.length H.row.length)).setCell ⟨B3, 3, none⟩ (.int .i64 H.side)).setCell ⟨B3, 4, none⟩ (.int .i64 H.top)).heap.size = w2.heap.size := by simp
  have TI := toInt64S_any (intsAt_below HA.out.2.1 BW') l2
  obtain ⟨⟨k0, k1, k2, k3, k4⟩, ⟨k5, k6, k7, k8⟩, _⟩ := nine_cells U1
  obtain ⟨⟨j0, j1, j2, j3, j4⟩, ⟨j5, j6, j7, j8⟩, jf⟩ := nine_cells U3
  have f2 := jf 2
  have f3 := jf 3
  have f4 := jf 4
  have HV1 : Hid _ := V1
  have HV2 : Hid _ := V2
  have HV3 : Hid _ := V3
  have HF1 : Hid _ := F1'
  have HB : Hid _ := BW'
  clear U1 U2 U3 V1 V2 V3 F1 F1' C3 BW BW' jf
  go_wp2_with fail
  generalize hY : (((w2.setCell ⟨B3, 2, none⟩ (.slice (some ⟨q1, 0, none⟩) H.row.length H.row.length)).setCell ⟨B3, 3, none⟩ (.int .i64 H.side)).setCell ⟨B3, 4, none⟩ (.int .i64 H.top)) = Y at *
  have sY1 : w2.heap.size ≤ Y.heap.size := by omega
  clear sY hY k0 k1 k2 k3 k4 k5 k6 k7 k8 j0 j1 j2 j3 j4 j5 j6 j7 j8 f2 f3 f4
  refine TI.mono ?_
  rintro e w3 ⟨rfl, F2, b3⟩
  clear TI
  have s3 := lt_of_block F2
  have U1 := nine_below HV1.out b3
  have U2 := nine_below HV2.out b3
  have U3 := nine_below HV3.out b3
  have G1 := full_belo HF1.out b3
  have BW := HB.out.trans (b3.mono HB.out.size)
  clear HV1 HV2 HV3 HF1 HB b3
  generalize hQ2 : Y.heap.size = q2 at *
  have V3 := nine_set5 U3 (.slice (some ⟨q2, 0, none⟩) H.roots.length H.roots.length)
  have C3 := one_ch w3 B3 5 (.slice (some ⟨q2, 0, none⟩) H.roots.length H.roots.length)
  have V1 := nine_ch U1 C3 n13
  have V2 := nine_ch U2 C3 n23
  have F1' := full_ch G1 C3 (by simp; omega)
  have F2' := full_ch F2 C3 (by simp; omega)
  have BW' := BW.setCell (p := ⟨B3, 5, none⟩) g3 (.slice (some ⟨q2, 0, none⟩) H.roots.length H.roots.length)
  have sZ : (w3.setCell ⟨B3, 5, none⟩ (.slice (some ⟨q2, 0, none⟩) H.roots.length H.roots.length)).heap.size = w3.heap.size := by simp
  have TI := toInt64S_any (intsAt_below HA.out.2.2.1 BW') l3
  obtain ⟨⟨k0, k1, k2, k3, k4⟩, ⟨k5, k6, k7, k8⟩, _⟩ := nine_cells U1
  obtain ⟨⟨j0, j1, j2, j3, j4⟩, ⟨j5, j6, j7, j8⟩, jf⟩ := nine_cells U3
  have f5 := jf 5
  have HV1 : Hid _ := V1
  have HV2 : Hid _ := V2
  have HV3 : Hid _ := V3
  have HF1 : Hid _ := F1'
  have HF2 : Hid _ := F2'
  have HB : Hid _ := BW'
  clear U1 U2 U3 V1 V2 V3 G1 F1' F2 F2' C3 BW BW' jf
  go_wp2_with fail
  generalize hZ : (w3.setCell ⟨B3, 5, none⟩ (.slice (some ⟨q2, 0, none⟩) H.roots.length H.roots.length)) = Z at *
  have sZ1 : w3.heap.size ≤ Z.heap.size := by omega
  clear sZ hZ k0 k1 k2 k3 k4 k5 k6 k7 k8 j0 j1 j2 j3 j4 j5 j6 j7 j8 f5
  refine TI.mono ?_
  rintro e w4 ⟨rfl, F3, b4⟩
  clear TI
  have s4 := lt_of_block F3
  have U1 := nine_below HV1.out b4
  have U2 := nine_below HV2.out b4
  have U3 := nine_below HV3.out b4
  have G1 := full_belo HF1.out b4
  have G2 := full_belo HF2.out b4
  have BW := HB.out.trans (b4.mono HB.out.size)
  clear HV1 HV2 HV3 HF1 HF2 HB b4
  generalize hQ3 : Z.heap.size = q3 at *
  have V3 := nine_set6 U3 (.slice (some ⟨q3, 0, none⟩) H.mourned.length H.mourned.length)
  have C3 := one_ch w4 B3 6 (.slice (some ⟨q3, 0, none⟩) H.mourned.length H.mourned.length)
  have V1 := nine_ch U1 C3 n13
  have V2 := nine_ch U2 C3 n23
  have F1' := full_ch G1 C3 (by simp; omega)
  have F2' := full_ch G2 C3 (by simp; omega)
  have F3' := full_ch F3 C3 (by simp; omega)
  have BW' := BW.setCell (p := ⟨B3, 6, none⟩) g3 (.slice (some ⟨q3, 0, none⟩) H.mourned.length H.mourned.length)
  have sV : (w4.setCell ⟨B3, 6, none⟩ (.slice (some ⟨q3, 0, none⟩) H.mourned.length H.mourned.length)).heap.size = w4.heap.size := by simp
  have TI := toInt64S_any (intsAt_below HA.out.2.2.2 BW') l4
  obtain ⟨⟨k0, k1, k2, k3, k4⟩, ⟨k5, k6, k7, k8⟩, _⟩ := nine_cells U1
  obtain ⟨⟨j0, j1, j2, j3, j4⟩, ⟨j5, j6, j7, j8⟩, jf⟩ := nine_cells U3
  have f6 := jf 6
  have HV1 : Hid _ := V1
  have HV2 : Hid _ := V2
  have HV3 : Hid _ := V3
  have HF1 : Hid _ := F1'
  have HF2 : Hid _ := F2'
  have HF3 : Hid _ := F3'
  have HB : Hid _ := BW'
  clear U1 U2 U3 V1 V2 V3 G1 G2 F1' F2' F3 F3' C3 BW BW' jf HA
  go_wp2_with fail
  generalize hV : (w4.setCell ⟨B3, 6, none⟩ (.slice (some ⟨q3, 0, none⟩) H.mourned.length H.mourned.length)) = V at *
  have sV1 : w4.heap.size ≤ V.heap.size := by omega
  clear sV hV k0 k1 k2 k3 k4 k5 k6 k7 k8 j0 j1 j2 j3 j4 j5 j6 j7 j8 f6
  refine TI.mono ?_
  rintro e w5 ⟨rfl, F4, b5⟩
  clear TI
  have s5 := lt_of_block F4
  have U1 := nine_below HV1.out b5
  have U2 := nine_below HV2.out b5
  have U3 := nine_below HV3.out b5
  have G1 := full_belo HF1.out b5
  have G2 := full_belo HF2.out b5
  have G3 := full_belo HF3.out b5
  have BW := HB.out.trans (b5.mono HB.out.size)
  clear HV1 HV2 HV3 HF1 HF2 HF3 HB b5
  generalize hQ4 : V.heap.size = q4 at *
  obtain ⟨Y5, hY5⟩ : ∃ Y5, Y5 = (w5.setCell ⟨B3, 7, none⟩ (.slice (some ⟨q4, 0, none⟩) H.seen.length H.seen.length)).setCell ⟨B3, 8, none⟩ (.int .i64 H.seed) := ⟨_, rfl⟩
  have C5 : Ch [B3] w5 Y5 := by rw [hY5]; exact (one_ch _ _ _ _).trans (one_ch _ _ _ _)
  have V2 := nine_ch U2 C5 n23
  have W := nine_sets V2 (.int .i64 H.half) (.int .i64 H.old) (.slice (some ⟨q1, 0, none⟩) H.row.length H.row.length) (.int .i64 H.side) (.int .i64 H.top) (.slice (some ⟨q2, 0, none⟩) H.roots.length H.roots.length) (.slice (some ⟨q3, 0, none⟩) H.mourned.length H.mourned.length) (.slice (some ⟨q4, 0, none⟩) H.seen.length H.seen.length) (.int .i64 H.seed)
  have C7 := (C5.mono (T := [B2, B3]) (fun k hk => by rw [List.mem_singleton] at hk; rw [hk]; simp)).trans ((nine_other (X := Y5) (b := B2) (.int .i64 H.half) (.int .i64 H.old) (.slice (some ⟨q1, 0, none⟩) H.row.length H.row.length) (.int .i64 H.side) (.int .i64 H.top) (.slice (some ⟨q2, 0, none⟩) H.roots.length H.roots.length) (.slice (some ⟨q3, 0, none⟩) H.mourned.length H.mourned.length) (.slice (some ⟨q4, 0, none⟩) H.seen.length H.seen.length) (.int .i64 H.seed)).mono (T := [B2, B3]) (fun k hk => by rw [List.mem_singleton] at hk; rw [hk]; simp))
  have far : ∀ k, q1 ≤ k → k ∉ [B2, B3] := fun k hk e => by simp only [List.mem_cons, List.not_mem_nil, or_false] at e; omega
  have R1 := full_ch G1 C7 (far q1 (by omega))
  have R2 := full_ch G2 C7 (far q2 (by omega))
  have R3 := full_ch G3 C7 (far q3 (by omega))
  have R4 := full_ch F4 C7 (far q4 (by omega))
  have B7 : Below w.heap.size w _ := nine_belows (show Below w.heap.size w Y5 by rw [hY5]; exact (BW.setCell (p := ⟨B3, 7, none⟩) g3 _).setCell (p := ⟨B3, 8, none⟩) g3 _) g2 (.int .i64 H.half) (.int .i64 H.old) (.slice (some ⟨q1, 0, none⟩) H.row.length H.row.length) (.int .i64 H.side) (.int .i64 H.top) (.slice (some ⟨q2, 0, none⟩) H.roots.length H.roots.length) (.slice (some ⟨q3, 0, none⟩) H.mourned.length H.mourned.length) (.slice (some ⟨q4, 0, none⟩) H.seen.length H.seen.length) (.int .i64 H.seed)
  have ND : (hblk (.slice (some ⟨q1, 0, none⟩) H.row.length H.row.length) (.slice (some ⟨q2, 0, none⟩) H.roots.length H.roots.length) (.slice (some ⟨q3, 0, none⟩) H.mourned.length H.mourned.length) (.slice (some ⟨q4, 0, none⟩) H.seen.length H.seen.length)).Nodup := by
    show ([q1] ++ [q2] ++ [q3] ++ [q4]).Nodup
    simp
    omega
  have OG : OwnH _ w.heap.size _ _ _ _ H := ⟨⟨full_own (base := w.heap.size) R1 (by omega) (by unfold maxLen; omega), full_own (base := w.heap.size) R2 (by omega) (by unfold maxLen; omega), full_own (base := w.heap.size) R3 (by omega) (by unfold maxLen; omega), full_own (base := w.heap.size) R4 (by omega) (by unfold maxLen; omega)⟩, ND⟩
  obtain ⟨⟨k0, k1, k2, k3, k4⟩, ⟨k5, k6, k7, k8⟩, _⟩ := nine_cells U1
  obtain ⟨⟨j0, j1, j2, j3, j4⟩, ⟨j5, j6, j7, j8⟩, jf⟩ := nine_cells U3
  obtain ⟨⟨i0, i1, i2, i3, i4⟩, ⟨i5, i6, i7, i8⟩, iF⟩ := nine_cells U2
  have f7 := jf 7
  have f8 := jf 8
  have d0 := iF 0
  have d1 := iF 1
  have d2 := iF 2
  have d3 := iF 3
  have d4 := iF 4
  have d5 := iF 5
  have d6 := iF 6
  have d7 := iF 7
  have d8 := iF 8
  have HOG : Hid _ := OG
  have HW : Hid _ := W
  have HB7 : Hid _ := B7
  have HY5 : Hid _ := hY5
  clear R1 R2 R3 R4 B7 ND OG W C5 C7 V2 U1 U2 U3 G1 G2 G3 F4 BW far jf iF hY5
  go_wp2
  rw [HY5.out] at HW HOG HB7
  exact bodyPost_ret (res_heap rfl rfl HW.out) rfl ⟨_, _, _, _, rfl, HOG.out, HB7.out⟩

end Go.Proofs.YtmhbdmmpmagbkaaGreat.hp
namespace Go.Proofs.YtmhbdmmpmagbkaaGreat.hp
open Go.RowKit rows heads words walks
set_option maxRecDepth 100000
set_option linter.unusedVariables false

def hf (H : Hp) : Nat := H.half.toNat
def od (H : Hp) : Nat := H.old.toNat
def bs (H : Hp) : Nat := (H.side * H.half).toNat
def tp (H : Hp) : Nat := H.top.toNat
/-- What is so where no number is bad. -/
structure Nums (H : Hp) : Prop where
  half : H.half = (hf H : Int)
  old : H.old = (od H : Int)
  base : H.side * H.half = (bs H : Int)
  top : H.top = (tp H : Int)
  half1 : 8 ≤ hf H ∧ hf H ≤ 200 ∧ hf H % 2 = 0
  old1 : 8 ≤ od H ∧ od H ≤ 400 ∧ od H % 2 = 0
  len : H.row.length = 2 * hf H + od H
  side : bs H = 0 ∨ bs H = hf H
  top1 : tp H ≤ hf H
  roots : H.roots.length = 6
  mourned : H.mourned.length ≤ 40
  seed : 0 ≤ H.seed ∧ H.seed ≤ 65535
theorem nums_of {H : Hp} (h : hbad H = false) : Nums H := by
  simp only [hbad, hb8, hb7, hb6, hb5, hb4, hb3, hb2, hb1, hb0, Bool.or_eq_false_iff, Bool.not_eq_false', inR, Bool.and_eq_true, decide_eq_true_eq, bne_eq_false_iff_eq, decide_eq_false_iff_not] at h
  obtain ⟨⟨⟨⟨⟨⟨⟨⟨⟨h0, h1⟩, h2⟩, h3⟩, h4⟩, h5⟩, h6⟩, h7⟩, h8⟩, h9⟩ := h
  have e0 : H.side = 0 ∨ H.side = 1 := by omega
  have eb : H.side * H.half = 0 ∨ H.side * H.half = H.half := by
    rcases e0 with e | e <;> rw [e] <;> simp
  refine ⟨?_, ?_, ?_, ?_, ?_, ?_, ?_, ?_, ?_, ?_, ?_, h9⟩
  all_goals (try simp only [hf, od, bs, tp])
  all_goals omega
theorem Nums.room {H : Hp} (h : Nums H) : bs H + tp H ≤ 2 * hf H := by
  have := h.side
  have := h.top1
  omega

/-- Is the word 0 there, where it must be? -/
def zeroAt (H : Hp) (i : Nat) : Bool := !(decide (i < bs H) || decide (bs H + tp H ≤ i)) || (H.row.getD i 0 == 0)
def zeroB (H : Hp) : Bool := (List.range (2 * hf H)).all (zeroAt H)
def roomW (H : Hp) : Option (List Int) := walkO H.row (bs H) (bs H + tp H)
def upW (H : Hp) : Option (List Int) := walkO H.row (2 * hf H) (2 * hf H + od H)
/-- May the chunk there stand in the room? -/
def roomOk (H : Hp) (p : Int) : Bool := !(uF (H.row.getD p.toNat 0) == 6) && !(uP (H.row.getD p.toNat 0))
/-- The places of all chunks, where they are right. -/
def placesB (H : Hp) : Option (List Int) :=
  if zeroB H = false then none else
    match roomW H, upW H with
    | some r, some u => if r.all (roomOk H) = true then some (r ++ u) else none
    | _, _ => none
def placesR (H : Hp) : Option (List Int) := if hbad H = true then none else placesB H
theorem placesB_zero {H : Hp} (h : zeroB H = false) : placesB H = none := by unfold placesB; rw [if_pos h]
theorem placesB_room {H : Hp} (h : roomW H = none) : placesB H = none := by
  unfold placesB
  split
  · rfl
  · rw [h]
theorem placesB_up {H : Hp} (h : upW H = none) : placesB H = none := by
  unfold placesB
  split
  · rfl
  · rw [h]
    cases roomW H <;> rfl
theorem placesB_no {H : Hp} {r : List Int} (h : roomW H = some r) (h1 : r.all (roomOk H) = false) : placesB H = none := by
  unfold placesB
  split
  · rfl
  · rw [h]
    cases upW H with
    | none => rfl
    | some u => simp [h1]
theorem placesB_yes {H : Hp} {r u : List Int} (h0 : zeroB H = true) (h : roomW H = some r) (h' : upW H = some u) (h1 : r.all (roomOk H) = true) : placesB H = some (r ++ u) := by
  unfold placesB
  rw [if_neg (by rw [h0]; decide), h, h']
  simp [h1]
theorem zeroB_false {H : Hp} {i : Nat} (hi : i < 2 * hf H) (h : zeroAt H i = false) : zeroB H = false := by
  unfold zeroB
  rw [List.all_eq_false]
  exact ⟨i, List.mem_range.2 hi, by simp [h]⟩
theorem zeroB_true {H : Hp} (h : ∀ i, i < 2 * hf H → zeroAt H i = true) : zeroB H = true := by
  unfold zeroB
  rw [List.all_eq_true]
  exact fun i hi => h i (List.mem_range.1 hi)
theorem all_no {xs : List Int} {f : Int → Bool} {k : Nat} (hk : k < xs.length) (h : f (xs.getD k 0) = false) : xs.all f = false := by
  rw [List.all_eq_false]
  refine ⟨xs.getD k 0, ?_, by rw [h]; decide⟩
  rw [List.getD_eq_getElem?_getD, List.getElem?_eq_getElem hk]
  exact List.getElem_mem hk
theorem all_yes {xs : List Int} {f : Int → Bool} (h : ∀ j, j < xs.length → f (xs.getD j 0) = true) : xs.all f = true := by
  rw [List.all_eq_true]
  intro x hx
  obtain ⟨i, hi, rfl⟩ := List.getElem_of_mem hx
  have := h i hi
  rwa [List.getD_eq_getElem?_getD, List.getElem?_eq_getElem hi] at this
theorem all_at {xs : List Int} {f : Int → Bool} (h : xs.all f = true) {k : Nat} (hk : k < xs.length) : f (xs.getD k 0) = true := by
  rw [List.all_eq_true] at h
  refine h _ ?_
  rw [List.getD_eq_getElem?_getD, List.getElem?_eq_getElem hk]
  exact List.getElem_mem hk
theorem walkO_mem {xs : List Int} {f t : Nat} (ht : t ≤ xs.length) {l : List Int} (h : walkO xs f t = some l) {x : Int} (hx : x ∈ l) : ∃ j : Nat, x = j ∧ f ≤ j ∧ j < t ∧ chunk xs j ≠ 0 := walkL_mem xs t ht _ _ _ h x hx
theorem walkO_len {xs : List Int} {f t : Nat} (ht : t ≤ 1048576) {l : List Int} (h : walkO xs f t = some l) : 2 * l.length ≤ t - f ∧ AllI l := walkL_length xs t ht _ _ _ h
theorem walkO_pos {xs : List Int} {f t : Nat} (hft : f < t) {l : List Int} (h : walkO xs f t = some l) : 0 < l.length := by
  by_cases hb : chunk xs f = 0 ∨ (f : Int) + chunk xs f > t
  · rw [walkO_bad hft hb] at h; cases h
  · rw [walkO_step hft hb] at h
    obtain ⟨l', _, rfl⟩ := Option.map_eq_some_iff.1 h
    simp
/-- What is so of the places of a heap. -/
theorem places_facts {H : Hp} {ps : List Int} (h : placesR H = some ps) : Nums H ∧ zeroB H = true ∧ ∃ r u, roomW H = some r ∧ upW H = some u ∧ r.all (roomOk H) = true ∧ ps = r ++ u := by
  unfold placesR placesB at h
  split at h
  · cases h
  · rename_i h1
    split at h
    · cases h
    · rename_i h2
      cases hr : roomW H with
      | none => rw [hr] at h; cases h
      | some r =>
        cases hu : upW H with
        | none => rw [hr, hu] at h; cases h
        | some u =>
          rw [hr, hu] at h
          simp only at h
          split at h
          · rename_i h3
            cases h
            exact ⟨nums_of (by simpa using h1), by simpa using h2, r, u, rfl, rfl, h3, rfl⟩
          · cases h
theorem places_plc {H : Hp} {ps : List Int} (h : placesR H = some ps) : (∀ p ∈ ps, ∃ j : Nat, p = j ∧ j < H.row.length ∧ chunk H.row j ≠ 0) ∧ ps.length ≤ 500 := by
  obtain ⟨N, _, r, u, hr, hu, _, rfl⟩ := places_facts h
  have hl := N.len
  have h1 := N.half1
  have h2 := N.old1
  have h3 := N.room
  have b1 := (walkO_len (by omega) hr).1
  have b2 := (walkO_len (by omega) hu).1
  refine ⟨fun p hp => ?_, by simp; omega⟩
  rcases List.mem_append.1 hp with hp | hp
  · obtain ⟨j, e, _, a, b⟩ := walkO_mem (by omega) hr hp
    exact ⟨j, e, by omega, b⟩
  · obtain ⟨j, e, _, a, b⟩ := walkO_mem (by omega) hu hp
    exact ⟨j, e, by omega, b⟩
/-- How many words of a chunk say something. -/
def cnS (x : Int) : Int := if uF x = 7 then 1 else if uF x = 6 then 0 else uS x
/-- What a chunk's words say. -/
def slotsOf (H : Hp) (p : Int) : List Int := (H.row.drop (p.toNat + 1)).take (cnS (H.row.getD p.toNat 0)).toNat
def slotsOk (H : Hp) (ps : List Int) : Bool := ps.all (fun p => (slotsOf H p).all (wordIn H ps))
def endsOk (H : Hp) (ps : List Int) : Bool := ps.all (endsL H (ps.length + 1))
def mournOk (H : Hp) (ps : List Int) : Bool := H.mourned.all (fun x => isA x && wordIn H ps x)
/-- Is all right, but for what is seen? -/
def rightB (H : Hp) : Bool := match placesR H with | none => false | some ps => slotsOk H ps && endsOk H ps && H.roots.all (wordIn H ps) && mournOk H ps
/-- What must be seen. -/
def seenL (H : Hp) : List Int := ((upW H).getD []).filter (fun p => (slotsOf H p).any (youngB H))
/-- Is the heap right? -/
def heapOk (H : Hp) : Bool := rightB H && decide (H.seen = seenL H)
theorem chunk_slots {xs : List Int} {j : Nat} (h : chunk xs j ≠ 0) : 0 ≤ cnS (xs.getD j 0) ∧ (j : Int) + 1 + cnS (xs.getD j 0) ≤ xs.length := by
  have b := chunk_bounds xs j
  unfold chunk at h b
  split at h
  · rename_i h0
    rw [if_pos h0] at b
    obtain ⟨s1, s2⟩ := uS_bounds (xs.getD j 0)
    have sb := sz_bounds s1 s2
    unfold cnS
    by_cases h6 : uF (xs.getD j 0) = 6
    · rw [if_neg (by omega), if_pos h6]
      rw [if_pos h6] at h b
      rcases b with b | b
      · exact absurd b h
      · omega
    · rw [if_neg h6] at h b
      rcases b with b | b
      · exact absurd b h
      · split at b
        · by_cases h7 : uF (xs.getD j 0) = 7
          · rw [if_pos h7]; omega
          · rw [if_neg h7, if_neg h6]; omega
        · omega
  · exact absurd rfl h
end Go.Proofs.YtmhbdmmpmagbkaaGreat.hp
namespace Go.Proofs.YtmhbdmmpmagbkaaGreat.hp
open Go.RowKit rows heads words walks region
set_option maxRecDepth 100000
set_option linter.unusedVariables false
set_option linter.unusedSimpArgs false

/-- A heap's block. -/
def HpBlk (w : World) (B : Nat) (H : Hp) (vr vo vm vs : Value) : Prop := Nine w B 31 (.int .i64 H.half) (.int .i64 H.old) vr (.int .i64 H.side) (.int .i64 H.top) vo vm vs (.int .i64 H.seed)
theorem hpBlk_cells {w : World} {B : Nat} {H : Hp} {vr vo vm vs : Value} (h : HpBlk w B H vr vo vm vs) :
    (w.cell? ⟨B, 0, none⟩ = some (.int .i64 H.half) ∧ w.cell? ⟨B, 1, none⟩ = some (.int .i64 H.old) ∧ w.cell? ⟨B, 2, none⟩ = some vr ∧ w.cell? ⟨B, 3, none⟩ = some (.int .i64 H.side) ∧ w.cell? ⟨B, 4, none⟩ = some (.int .i64 H.top)) ∧ (w.cell? ⟨B, 5, none⟩ = some vo ∧ w.cell? ⟨B, 6, none⟩ = some vm ∧ w.cell? ⟨B, 7, none⟩ = some vs ∧ w.cell? ⟨B, 8, none⟩ = some (.int .i64 H.seed)) ∧ ∀ k, w.frozen? ⟨B, k, none⟩ = false := nine_cells h
theorem hpBlk_below {w w' : World} {B : Nat} {H : Hp} {vr vo vm vs : Value} (h : HpBlk w B H vr vo vm vs) (hb : Below w.heap.size w w') : HpBlk w' B H vr vo vm vs := nine_below h hb
/-- A row read at a place. -/
theorem ints_cell {w : World} {a : Option Addr} {n cap : Nat} {xs : List Int} (h : IntsAt w (.slice a n cap) xs) {k : Nat} (hk : k < xs.length) : ∃ b off, a = some ⟨b, off, none⟩ ∧ b < w.heap.size ∧ w.cell? ⟨b, off + k, none⟩ = some (.int .i64 (xs.getD k 0)) := by
  obtain ⟨a', c', e, _, _, _, hc⟩ := h
  injection e with e1 e2 e3
  subst e1
  obtain ⟨b, off, rfl, hb, hcc⟩ := hc (by omega)
  exact ⟨b, off, rfl, hb, hcc k hk⟩
theorem ints_cap {w : World} {a : Option Addr} {n cap : Nat} {xs : List Int} (h : IntsAt w (.slice a n cap) xs) : n = xs.length ∧ n ≤ cap ∧ cap ≤ maxLen := by
  obtain ⟨a', c', e, h1, h2, _, _⟩ := h
  injection e with e1 e2 e3
  subst e3
  exact ⟨e2, by omega, h2⟩
/-- A head that was made of a word, in a block of its own. -/
def HeadW (w : World) (B : Nat) (x : Int) : Prop := HeadAt w B (uS x) (uF x) (uC x) (uH x) (uP x) (uM x)

set_option maxHeartbeats 16000000 in
theorem l9Places_good {w : World} {vr vo vm vs : Value} {H : Hp} (h : HpAt w vr vo vm vs H) (N : Nums H) (hd : hbad H = false) :
    Calls Tryz.prog 78 #[hpv H vr vo vm vs] w fun e w' => ∃ v', e = .returned (.tuple #[v', .bool (placesR H).isSome]) ∧ rows.Own w' w.heap.size v' ((placesR H).getD []) ∧ Below w.heap.size w w' := by
  obtain ⟨R, hR⟩ : ∃ R, placesR H = R := ⟨_, rfl⟩
  rw [hR]
  have hR2 : placesB H = R := by rw [← hR]; unfold placesR; rw [if_neg (by rw [hd]; decide)]
  clear hR
  obtain ⟨a1, c1, a2, c2, a3, c3, a4, c4, e1, e2, e3, e4⟩ := hpAt_slices h
  subst e1 e2 e3 e4
  have B0 : Below w.heap.size w ((w.alloc (hpb H (.slice a1 H.row.length c1) (.slice a2 H.roots.length c2) (.slice a3 H.mourned.length c3) (.slice a4 H.seen.length c4))).alloc (.cells #[] 2)) := ((Below.refl _ _).alloc (Nat.le_refl _) _).alloc (by simp) _
  have HO0 : Hid (rows.Own ((w.alloc (hpb H (.slice a1 H.row.length c1) (.slice a2 H.roots.length c2) (.slice a3 H.mourned.length c3) (.slice a4 H.seen.length c4))).alloc (.cells #[] 2)) w.heap.size (.slice (some ⟨w.heap.size + 1, 0, none⟩) 0 0) []) := own_nothing2 (by simp) (by omega)
  have T1 : HpBlk ((w.alloc (hpb H (.slice a1 H.row.length c1) (.slice a2 H.roots.length c2) (.slice a3 H.mourned.length c3) (.slice a4 H.seen.length c4))).alloc (.cells #[] 2)) w.heap.size H (.slice a1 H.row.length c1) (.slice a2 H.roots.length c2) (.slice a3 H.mourned.length c3) (.slice a4 H.seen.length c4) := nine_below (nine_new w H _ _ _ _) ((Below.refl _ _).alloc (Nat.le_refl _) _)
  have HZ : Hid _ := nine_cells T1
  have HT1 : Hid _ := T1
  have HB0 : Hid _ := B0
  have HRow : Hid _ := intsAt_below h.1 B0
  have HD : Hid _ := hd
  have HN : Hid _ := N
  have HR2 : Hid _ := hR2
  have sz0 : w.heap.size + 1 < ((w.alloc (hpb H (.slice a1 H.row.length c1) (.slice a2 H.roots.length c2) (.slice a3 H.mourned.length c3) (.slice a4 H.seen.length c4))).alloc (.cells #[] 2)).heap.size := by simp
  clear B0 T1 h hd N hR2
  go_enter Tryz.func78, Tryz.ntmps78
  go_upto_region 2 with fail
  go_cut [79] from 14 to 78 (fun v wz => v = .bool (hbad H) ∧ wz = ((w.alloc (hpb H (.slice a1 H.row.length c1) (.slice a2 H.roots.length c2) (.slice a3 H.mourned.length c3) (.slice a4 H.seen.length c4))).alloc (.cells #[] 2)))
  case first =>
    rename_i J K' HJ HK
    obtain ⟨⟨z0, z1, z2, z3, z4⟩, ⟨z5, z6, z7, z8⟩, _⟩ := HZ.out
    refine regHead (p0 := hb0 H) (p1 := hb1 H) (p2 := hb2 H) (p3 := hb3 H) (p4 := hb4 H) (p5 := hb5 H) (p6 := hb6 H) (p7 := hb7 H) (p8 := hb8 H) (p9 := hbad H) rfl ⟨_, rfl, rfl, rfl, rfl⟩ ⟨_, rfl, rfl, rfl, rfl⟩ ⟨_, rfl, rfl, rfl, rfl⟩ ⟨_, rfl, rfl, rfl, rfl⟩ ⟨_, rfl, rfl, rfl, rfl⟩ ⟨_, rfl, rfl, rfl, rfl⟩ ⟨_, rfl, rfl, rfl, rfl⟩ ⟨_, rfl, rfl, rfl, rfl⟩ ⟨_, rfl, rfl, rfl, rfl⟩ ⟨_, rfl, rfl, rfl, rfl⟩ ⟨_, rfl, rfl, rfl, rfl⟩ ⟨_, rfl, rfl, rfl, rfl⟩ ⟨_, rfl, rfl, rfl, rfl⟩ ⟨_, rfl, rfl, rfl, rfl⟩ ⟨_, rfl, rfl, rfl, rfl⟩ ⟨_, rfl, rfl, rfl, rfl⟩ ⟨_, rfl, rfl, rfl, rfl⟩ ⟨_, rfl, rfl, rfl, rfl⟩ ⟨_, rfl, rfl, rfl, rfl⟩ ⟨_, rfl, rfl, rfl, rfl⟩ ⟨_, rfl, rfl, rfl, rfl⟩ ⟨_, rfl, rfl, rfl, rfl⟩ ⟨_, rfl, rfl, rfl, rfl⟩ ⟨_, rfl, rfl, rfl, rfl⟩ ⟨_, rfl, rfl, rfl, rfl⟩ ⟨_, rfl, rfl, rfl, rfl⟩ ⟨_, rfl, rfl, rfl, rfl⟩ ⟨_, rfl, rfl, rfl, rfl⟩ ⟨_, rfl, rfl, rfl, rfl⟩ ⟨_, rfl, rfl, rfl, rfl⟩ ⟨_, rfl, rfl, rfl, rfl⟩ ⟨_, rfl, rfl, rfl, rfl⟩ ⟨_, rfl, rfl, rfl, rfl⟩ ⟨_, rfl, rfl, rfl, rfl⟩ ⟨_, rfl, rfl, rfl, rfl⟩ ⟨_, rfl, rfl, rfl, rfl⟩ ⟨_, rfl, rfl, rfl, rfl⟩ ⟨_, rfl, rfl, rfl, rfl⟩ ⟨_, rfl, rfl, rfl, rfl⟩ ⟨_, rfl, rfl, rfl, rfl⟩ ⟨_, rfl, rfl, rfl, rfl⟩ ⟨_, rfl, rfl, rfl, rfl⟩ ⟨_, rfl, rfl, rfl, rfl⟩ ⟨_, rfl, rfl, rfl, rfl⟩ ⟨_, rfl, rfl, rfl, rfl⟩ ⟨_, rfl, rfl, rfl, rfl⟩ ⟨_, rfl, rfl, rfl, rfl⟩ ⟨_, rfl, rfl, rfl, rfl⟩ ⟨_, rfl, rfl, rfl, rfl⟩ ⟨_, rfl, rfl, rfl, rfl⟩ ⟨_, rfl, rfl, rfl, rfl⟩ ⟨_, rfl, rfl, rfl, rfl⟩ ⟨_, rfl, rfl, rfl, rfl⟩ ⟨_, rfl, rfl, rfl, rfl⟩ ⟨_, rfl, rfl, rfl, rfl⟩ ⟨_, rfl, rfl, rfl, rfl⟩ ⟨_, rfl, rfl, rfl, rfl⟩ ⟨_, rfl, rfl, rfl, rfl⟩ ⟨_, rfl, rfl, rfl, rfl⟩ ⟨_, rfl, rfl, rfl, rfl⟩ ⟨_, rfl, rfl, rfl, rfl⟩ ⟨_, rfl, rfl, rfl, rfl⟩ ⟨_, rfl, rfl, rfl, rfl⟩ ⟨_, rfl, rfl, rfl, rfl⟩ ⟨_, rfl, rfl, rfl, rfl⟩ ⟨_, rfl, rfl, rfl, rfl⟩ (by simp) rfl z0 z1 z2 z3 z4 z5 z6 z8 rfl rfl rfl rfl rfl rfl rfl rfl rfl rfl ?_
    intro u hu
    exact HK _ _ (Met.intro (HJ _ _ ⟨u 14, u 15, u 16, u 17, u 18, u 19, u 20, u 21, u 22, u 23, u 24, u 25, u 26, u 27, u 28, u 29, u 30, u 31, u 32, u 33, u 34, u 35, u 36, u 37, u 38, u 39, u 40, u 41, u 42, u 43, u 44, u 45, u 46, u 47, u 48, u 49, u 50, u 51, u 52, u 53, u 54, u 55, u 56, u 57, u 58, u 59, u 60, u 61, u 62, u 63, u 64, u 65, u 66, u 67, u 68, u 69, u 70, u 71, u 72, u 73, u 74, u 75, u 76, u 77, u 78, u 79, ⟨hu, rfl⟩, rfl⟩))
  obtain ⟨rfl, rfl⟩ := hcut
  rw [HD.out]
  obtain ⟨⟨z0, z1, z2, z3, z4⟩, ⟨z5, z6, z7, z8⟩, _⟩ := HZ.out
  clear HZ HD
  generalize ((w.alloc (hpb H (.slice a1 H.row.length c1) (.slice a2 H.roots.length c2) (.slice a3 H.mourned.length c3) (.slice a4 H.seen.length c4))).alloc (.cells #[] 2)) = X at *
  have eH := HN.out.half
  have eO := HN.out.old
  have eB := HN.out.base
  have eT := HN.out.top
  have n1 := HN.out.half1
  have n2 := HN.out.old1
  have n3 := HN.out.len
  have n4 := HN.out.room
  rw [eH] at z0 eB
  rw [eO] at z1
  rw [eT] at z4
  generalize hHF : hf H = F at *
  generalize hOD : od H = D at *
  generalize hBS : bs H = b0 at *
  generalize hTP : tp H = t0 at *
  have HE : Hid _ := And.intro hHF (And.intro hOD (And.intro hBS hTP))
  have HL : Hid _ := n3
  have bF : F ≤ 200 := n1.2.1
  have bD : D ≤ 400 := n2.2.1
  have bD8 : 8 ≤ D := n2.1
  have bB : b0 + t0 ≤ 2 * F := n4
  obtain ⟨M, hM⟩ : ∃ M : Nat, 2 * F = M := ⟨_, rfl⟩
  have eM : 2 * (F : Int) = (M : Int) := by omega
  obtain ⟨E, hE⟩ : ∃ E : Nat, b0 + t0 = E := ⟨_, rfl⟩
  have eE : (b0 : Int) + (t0 : Int) = (E : Int) := by omega
  have HMM : Hid _ := hM
  have HEE : Hid _ := hE
  have bM : M ≤ 400 := by omega
  have bE : E ≤ M := by omega
  have bb0 : b0 ≤ E := by omega
  clear eH eO eT n1 n2 n3 n4 hHF hOD hBS hTP hM hE
  go_wp2_with fail
  go_loopw [6] (fun p wr => ∃ k : Nat, k ≤ M ∧ p = .int .i64 (k : Int) ∧ (∀ j, j < k → zeroAt H j = true) ∧ wr = X) (fun p _ => M - (intOf p).toNat)
  case atStart => exact ⟨0, Nat.zero_le _, rfl, fun j hj => by omega, rfl⟩
  case round =>
    obtain ⟨k, hk, rfl, hall, hw⟩ := hrel
    subst hw
    by_cases hlt : k < M
    · have HZA : Hid (zeroAt H k = (!(decide (k < b0) || decide (E ≤ k)) || (H.row.getD k 0 == 0))) := by
        show zeroAt H k = _
        unfold zeroAt
        rw [HE.out.2.2.1, HE.out.2.2.2, HEE.out]
      by_cases h1 : k < b0
      · have h1' : (k : Int) < (b0 : Int) := by omega
        obtain ⟨rb, ro, rfl, hrb, x0⟩ := ints_cell HRow.out (k := k) (by have := HL.out; omega)
        by_cases hy : H.row.getD k 0 = 0
        · have HV : Hid (∀ j, j < k + 1 → zeroAt H j = true) := by
            intro j hj
            by_cases e : j = k
            · rw [e, HZA.out, hy]; simp
            · exact hall j (by omega)
          rw [hy] at x0
          have y1 : ((0 : Int) != 0) = false := by decide
          have kl : k < H.row.length := by have := HL.out; omega
          clear hall HZA hy
          go_wp2
          exact ⟨⟨k + 1, by omega, by go_num, HV, by trivial⟩, by simp [intOf]; omega⟩
        · have HF : Hid (R = none) := by
            show R = none
            rw [← HR2.out]
            refine placesB_zero (zeroB_false (i := k) (by rw [HE.out.1]; have := HMM.out; omega) ?_)
            rw [HZA.out]
            simp [h1]
            simpa using hy
          have y1 : (H.row.getD k 0 != 0) = true := by simpa using hy
          have kl : k < H.row.length := by have := HL.out; omega
          clear hall HZA hy
          generalize H.row.getD k 0 = y at *
          go_wp2
          go_ret2
          rw [HF.out]
          exact ⟨_, rfl, HO0.out, HB0.out⟩
      · have h1' : ¬ (k : Int) < (b0 : Int) := by omega
        by_cases h2 : E ≤ k
        · have h2' : (k : Int) ≥ (E : Int) := by omega
          obtain ⟨rb, ro, rfl, hrb, x0⟩ := ints_cell HRow.out (k := k) (by have := HL.out; omega)
          by_cases hy : H.row.getD k 0 = 0
          · have HV : Hid (∀ j, j < k + 1 → zeroAt H j = true) := by
              intro j hj
              by_cases e : j = k
              · rw [e, HZA.out, hy]; simp
              · exact hall j (by omega)
            rw [hy] at x0
            have y1 : ((0 : Int) != 0) = false := by decide
            have kl : k < H.row.length := by have := HL.out; omega
            clear hall HZA hy
            go_wp2
            exact ⟨⟨k + 1, by omega, by go_num, HV, by trivial⟩, by simp [intOf]; omega⟩
          · have HF : Hid (R = none) := by
              show R = none
              rw [← HR2.out]
              refine placesB_zero (zeroB_false (i := k) (by rw [HE.out.1]; have := HMM.out; omega) ?_)
              rw [HZA.out]
              simp [h2]
              simpa using hy
            have y1 : (H.row.getD k 0 != 0) = true := by simpa using hy
            have kl : k < H.row.length := by have := HL.out; omega
            clear hall HZA hy
            generalize H.row.getD k 0 = y at *
            go_wp2
            go_ret2
            rw [HF.out]
            exact ⟨_, rfl, HO0.out, HB0.out⟩
        · have h2' : ¬ (k : Int) ≥ (E : Int) := by omega
          have HV : Hid (∀ j, j < k + 1 → zeroAt H j = true) := by
            intro j hj
            by_cases e : j = k
            · rw [e, HZA.out]; simp [h1, h2]
            · exact hall j (by omega)
          clear hall HZA
          go_wp2
          exact ⟨⟨k + 1, by omega, by go_num, HV, by trivial⟩, by simp [intOf]; omega⟩
    · have hlt' : ¬ (k : Int) < (M : Int) := by omega
      have HZB : Hid (zeroB H = true) := zeroB_true (fun i hi => hall i (by rw [HE.out.1] at hi; have := HMM.out; omega))
      clear hall
      obtain ⟨T, hT⟩ : ∃ T : Nat, M + D = T := ⟨_, rfl⟩
      have eTT : (M : Int) + (D : Int) = (T : Int) := by omega
      have hlen : H.row.length = T := by have := HL.out; have := HMM.out; omega
      have bT : T ≤ 800 := by omega
      have bMT : M < T := by omega
      have W1 := l4Walk_any HRow.out (by omega) b0 E (by omega)
      have eW1 : walkO H.row b0 E = roomW H := by unfold roomW; rw [HE.out.2.2.1, HE.out.2.2.2, HEE.out]
      have W2 : ∀ W, Below wr.heap.size wr W → _ := fun W hW => l4Walk_any (intsAt_below HRow.out hW) (by omega) M T (by omega)
      have eW2 : walkO H.row M T = upW H := by unfold upW; rw [HE.out.1, HE.out.2.1, HMM.out, hT]
      rw [eW1] at W1
      rw [eW2] at W2
      have HLEN : Hid _ := hlen
      clear eW1 eW2 hlen hT
      have HW2 : Hid _ := W2
      clear W2
      cases dr : roomW H with
      | none =>
        rw [dr] at W1
        have HF : Hid (R = none) := by show R = none; rw [← HR2.out]; exact placesB_room dr
        clear dr
        go_wp2_with fail
        refine W1.mono ?_
        clear W1
        rintro e w1 ⟨v1, rfl, O1, b1⟩
        have W2 := HW2.out w1 b1
        obtain ⟨b2, hb2⟩ : ∃ b2, (upW H).isSome = b2 := ⟨_, rfl⟩
        rw [hb2] at W2
        have T1 := nine_below HT1.out b1
        obtain ⟨⟨y0, y1, y2, y3, y4⟩, ⟨y5, y6, y7, y8⟩, _⟩ := nine_cells T1
        have eH := HN.out.half
        have eO := HN.out.old
        rw [HE.out.1] at eH
        rw [HE.out.2.1] at eO
        rw [eH] at y0
        rw [eO] at y1
        have HB1 : Hid _ := HB0.out.trans (b1.mono HB0.out.size)
        have HO1 : Hid _ := own_below HO0.out b1
        obtain ⟨va, vn, vc, rfl⟩ := ints_slice (own_ints O1)
        clear T1 b1 O1 HW2 hb2 eH eO z0 z1 z2 z3 z4 z5 z6 z7 z8
        go_wp2_with fail
        refine W2.mono ?_
        clear W2
        rintro e w2 ⟨v2, rfl, O2, b2'⟩
        obtain ⟨ua, un, uc, rfl⟩ := ints_slice (own_ints O2)
        have HB2 : Hid _ := HB1.out.trans (b2'.mono HB1.out.size)
        have HO2 : Hid _ := own_below HO1.out b2'
        clear O2 b2'
        go_wp2
        go_ret2
        rw [HF.out]
        exact ⟨_, rfl, HO2.out, HB2.out⟩
      | some r =>
        rw [dr] at W1
        have HDR : Hid _ := dr
        clear dr
        cases du : upW H with
        | none =>
          rw [du] at HW2
          have HF : Hid (R = none) := by show R = none; rw [← HR2.out]; exact placesB_up du
          clear du
          go_wp2_with fail
          refine W1.mono ?_
          clear W1
          rintro e w1 ⟨v1, rfl, O1, b1⟩
          have W2 := HW2.out w1 b1
          have T1 := nine_below HT1.out b1
          obtain ⟨⟨y0, y1, y2, y3, y4⟩, ⟨y5, y6, y7, y8⟩, _⟩ := nine_cells T1
          have eH := HN.out.half
          have eO := HN.out.old
          rw [HE.out.1] at eH
          rw [HE.out.2.1] at eO
          rw [eH] at y0
          rw [eO] at y1
          have HB1 : Hid _ := HB0.out.trans (b1.mono HB0.out.size)
          have HO1 : Hid _ := own_below HO0.out b1
          obtain ⟨va, vn, vc, rfl⟩ := ints_slice (own_ints O1)
          clear T1 b1 O1 HW2 eH eO z0 z1 z2 z3 z4 z5 z6 z7 z8
          go_wp2_with fail
          refine W2.mono ?_
          clear W2
          rintro e w2 ⟨v2, rfl, O2, b2'⟩
          obtain ⟨ua, un, uc, rfl⟩ := ints_slice (own_ints O2)
          have HB2 : Hid _ := HB1.out.trans (b2'.mono HB1.out.size)
          have HO2 : Hid _ := own_below HO1.out b2'
          clear O2 b2'
          go_wp2
          go_ret2
          rw [HF.out]
          exact ⟨_, rfl, HO2.out, HB2.out⟩
        | some u =>
          rw [du] at HW2
          have HDU : Hid _ := du
          clear du
          go_wp2_with fail
          refine W1.mono ?_
          clear W1
          rintro e w1 ⟨v1, rfl, O1, b1⟩
          have W2 := HW2.out w1 b1
          have T1 := nine_below HT1.out b1
          obtain ⟨⟨y0, y1, y2, y3, y4⟩, ⟨y5, y6, y7, y8⟩, _⟩ := nine_cells T1
          have eH := HN.out.half
          have eO := HN.out.old
          rw [HE.out.1] at eH
          rw [HE.out.2.1] at eO
          rw [eH] at y0
          rw [eO] at y1
          have HB1 : Hid _ := HB0.out.trans (b1.mono HB0.out.size)
          have HO1 : Hid _ := own_below HO0.out b1
          have HT2 : Hid _ := T1
          have HRow1 : Hid _ := intsAt_below HRow.out b1
          have HR1 : Hid (rows.Own w1 wr.heap.size v1 r) := O1
          obtain ⟨va, vc, rfl, hv1, hv2, _, _⟩ := own_ints O1
          have s1 := b1.size
          clear T1 b1 O1 HW2 eH eO z0 z1 z2 z3 z4 z5 z6 z7 z8 HT1 HO0 HB0 HRow
          go_wp2_with fail
          refine W2.mono ?_
          clear W2
          rintro e w2 ⟨v2, rfl, O2, b2'⟩
          have HB2 : Hid _ := HB1.out.trans (b2'.mono HB1.out.size)
          have HO2 : Hid _ := own_below HO1.out b2'
          have HT3 : Hid _ := nine_below HT2.out b2'
          have HRow2 : Hid _ := intsAt_below HRow1.out b2'
          have HR2' : Hid _ := own_below HR1.out b2'
          have HU2 : Hid (rows.Own w2 w1.heap.size v2 u) := O2
          obtain ⟨ua, uc, rfl, hu1, hu2, _, _⟩ := own_ints O2
          have s2 := b2'.size
          have q1 := HN.out.room
          have q2 := HN.out.half1
          have q3 := HN.out.old1
          have q4 := HN.out.len
          have rl := (walkO_len (by omega) HDR.out).1
          have ul := (walkO_len (by omega) HDU.out).1
          have HPos : Hid (0 < u.length) := walkO_pos (by omega) HDU.out
          have HMem : Hid (∀ x ∈ r, ∃ j : Nat, x = j ∧ j < H.row.length) := fun x hx => by
            obtain ⟨j, e, _, a, _⟩ := walkO_mem (by omega) HDR.out hx
            exact ⟨j, e, by omega⟩
          have rl' : r.length ≤ 1000 := by omega
          have ul' : u.length ≤ 1000 := by omega
          clear q1 q2 q3 q4
          clear O2 b2' HB1 HO1 HT2 HRow1 HR1 y0 y1 y2 y3 y4 y5 y6 y7 y8 rl ul
          go_wp2_with fail
          go_loopw [11] (fun p wz => ∃ k : Nat, k ≤ r.length ∧ p = .int .i64 (k : Int) ∧ (∀ j, j < k → roomOk H (r.getD j 0) = true) ∧ Below w2.heap.size w2 wz) (fun p _ => r.length - (intOf p).toNat)
          case atStart => exact ⟨0, Nat.zero_le _, rfl, fun j hj => by omega, Below.refl _ _⟩
          case round =>
            obtain ⟨k, hk, rfl, hall, hB⟩ := hrel
            have T5 := nine_below HT3.out hB
            have Row5 := intsAt_below HRow2.out hB
            have R5 := own_below HR2'.out hB
            have sz5 := hB.size
            by_cases hlt : k < r.length
            · have hlt' : (k : Int) < (r.length : Int) := by omega
              obtain ⟨j, hj, hjl⟩ := HMem.out (r.getD k 0) (by rw [List.getD_eq_getElem?_getD, List.getElem?_eq_getElem hlt]; exact List.getElem_mem hlt)
              obtain ⟨lb, lo, ev, hlb, x0⟩ := ints_cell (own_ints R5) hlt
              subst ev
              have hroom : roomOk H (r.getD k 0) = (!(uF (H.row.getD j 0) == 6) && !(uP (H.row.getD j 0))) := by unfold roomOk; rw [hj]; rfl
              have HROOM : Hid _ := hroom
              rw [hj] at x0
              obtain ⟨⟨z0, z1, z2, z3, z4⟩, ⟨z5, z6, z7, z8⟩, _⟩ := nine_cells T5
              have BA := (Below.refl wr.heap.size wr).alloc (Nat.le_refl _) (hb 0 0 0 0 false false)
              have z2' := (BA.cell (p := ⟨w.heap.size, 2, none⟩) (World.block_lt_of_cell? _ _ z2)).trans z2
              have x0' := (BA.cell (p := ⟨lb, lo + k, none⟩) hlb).trans x0
              have HL4 : Hid (∀ W, Below wr.heap.size wr W → Calls Tryz.prog 55 #[.slice a1 H.row.length c1, .int .i64 (j : Int)] W fun e w' => e = .returned (hv (uS (H.row.getD j 0)) (uF (H.row.getD j 0)) (uC (H.row.getD j 0)) (uH (H.row.getD j 0)) (uP (H.row.getD j 0)) (uM (H.row.getD j 0))) ∧ Below W.heap.size W w') := fun W hW => l4Head_any (intsAt_below Row5 hW) j hjl
              have HA : Hid (∀ W, Below (wr.alloc (hb 0 0 0 0 false false)).heap.size (wr.alloc (hb 0 0 0 0 false false)) W → HeadAt W wr.heap.size 0 0 0 0 false false) := fun W hW => headAt_below (headAt_new wr 0 0 0 0 false false) hW
              have HBA : Hid _ := BA
              have HBz : Hid _ := hB
              clear T5 R5 Row5 hj hroom BA hB
              generalize uF (H.row.getD j 0) = f at *
              generalize uS (H.row.getD j 0) = s at *
              generalize uC (H.row.getD j 0) = c at *
              generalize uH (H.row.getD j 0) = g at *
              generalize uP (H.row.getD j 0) = p at *
              generalize uM (H.row.getD j 0) = m at *
              go_upto_region 17 with fail
              go_cut [11, 12] from 146 to 166 (fun i q wy => i = .int .i64 (k : Int) ∧ ∃ B, q = .pointer (some ⟨B, 0, none⟩) ∧ HeadAt wy B s f c g p m ∧ Below wr.heap.size wr wy)
              case first =>
                go_region_law (first
                  | (go_simp; go_at_call 55; refine (HL4.out _ HBA.out.drew).mono ?_; clear HL4; rintro e w6 ⟨rfl, b6⟩; have b7 : Below (wr.alloc (hb 0 0 0 0 false false)).heap.size (wr.alloc (hb 0 0 0 0 false false)) w6 := ⟨b6.os, b6.tape, b6.output, b6.size, b6.block⟩; have TA := HA.out w6 b7; obtain ⟨t0', t1', t2', t3', t4', t5', tf⟩ := headAt_cells TA; have f0 := tf 0; have f1 := tf 1; have f2 := tf 2; have f3 := tf 3; have f4 := tf 4; have f5 := tf 5; have HEnd : Hid _ := And.intro (six_set TA s f c g p m) (six_below (HBA.out.trans (b7.mono HBA.out.size)) (Nat.le_refl wr.heap.size) s f c g p m); clear b6 b7 TA tf)
                  | (go_simp; go_at_call 55; refine (HL4.out _ (Below.refl _ _).drew).mono ?_; clear HL4; rintro e w6 ⟨rfl, b6⟩; have b7 : Below wr.heap.size wr w6 := ⟨b6.os, b6.tape, b6.output, b6.size, b6.block⟩; have HEnd : Hid _ := And.intro (headAt_new w6 s f c g p m) (b7.alloc b7.size (hb s f c g p m)); clear b6 b7))
                all_goals (go_wp2_with fail)
                all_goals go_meet
                all_goals exact ⟨rfl, _, rfl, HEnd.out.1, HEnd.out.2⟩
              obtain ⟨rfl, B, rfl, hHd, hBy⟩ := hcut
              obtain ⟨t0', t1', t2', t3', t4', t5', _⟩ := headAt_cells hHd
              have HB7 : Hid (Below w2.heap.size w2 wc) := HBz.out.trans (hBy.mono HBz.out.size)
              have HOE : Hid _ := own_below HO2.out HB7.out
              have HBE : Hid _ := HB2.out.trans (HB7.out.mono HB2.out.size)
              clear z0 z1 z2 z3 z4 z5 z6 z7 z8 z2' x0 x0' HL4 HA HBA hHd hBy
              by_cases h6 : f = 6
              · subst h6
                have HF : Hid (R = none) := by
                  show R = none
                  rw [← HR2.out]
                  exact placesB_no HDR.out (all_no hlt (by rw [HROOM.out]; rfl))
                clear HROOM hall
                go_wp2
                go_ret2
                rw [HF.out]
                exact ⟨_, rfl, HOE.out, HBE.out⟩
              · have h6' : (f == 6) = false := by simpa using h6
                cases p with
                | true =>
                  have HF : Hid (R = none) := by
                    show R = none
                    rw [← HR2.out]
                    exact placesB_no HDR.out (all_no hlt (by rw [HROOM.out, h6']; rfl))
                  clear HROOM hall
                  go_wp2
                  go_ret2
                  rw [HF.out]
                  exact ⟨_, rfl, HOE.out, HBE.out⟩
                | false =>
                  have HV : Hid (∀ j, j < k + 1 → roomOk H (r.getD j 0) = true) := by
                    intro j' hj'
                    by_cases e : j' = k
                    · rw [e, HROOM.out, h6']; rfl
                    · exact hall j' (by omega)
                  clear HROOM hall
                  go_wp2
                  exact ⟨⟨k + 1, by omega, by go_num, HV, HB7.out⟩, by simp [intOf]; omega⟩
            · have hlt' : ¬ (k : Int) < (r.length : Int) := by omega
              have HF : Hid (R = some (r ++ u)) := by
                show R = _
                rw [← HR2.out]
                exact placesB_yes HZB.out HDR.out HDU.out (all_yes (fun j hj => hall j (by omega)))
              have U5 := own_below HU2.out hB
              obtain ⟨ub, uo, ev, hub, _⟩ := ints_cell (own_ints U5) (k := 0) HPos.out
              subst ev
              have HNW : Hid _ := ints_news (own_ints U5)
              have HRO : Hid (rows.Own wr w.heap.size (.slice va r.length vc) r) := own_base R5 (by omega)
              have HBw : Hid _ := HB2.out.trans (hB.mono HB2.out.size)
              have sb : w.heap.size ≤ wr.heap.size := HBw.out.size
              obtain ⟨i0, hi, hz0, hz1, hz2⟩ := info_parts info
              have HI : Hid _ := And.intro hi (And.intro hz0 (And.intro hz1 hz2))
              clear T5 Row5 R5 U5 hall hi hz0 hz1 hz2
              go_wp2_with (refine wpList_append_own_at _ rfl (.tmp 167) (.tmp 168) 22 rfl w.heap.size 2 i0 (.int .i64 0) 1 8 Tryz.underlying22 HI.out.1 HI.out.2.1 HI.out.2.2.1 HI.out.2.2.2 rfl (by decide) (.slice va r.length vc) r.length (cellsOf r) rfl HRO.out ⟨ub, uo, none⟩ u.length uc (cellsOf u) rfl (by simp) HNW.out (ints_oneCell _ _) (by unfold maxLen; omega) (by omega) sb ?_; intro v' w8 hrow hg _ _; have HR8 : Hid _ := hrow; have HG8 : Hid _ := hg; clear hrow hg)
              have O8 : rows.Own w8 w.heap.size v' (r ++ u) := by
                have := HR8.out
                unfold rows.Own
                have e : cellsOf (r ++ u) = cellsOf r ++ cellsOf u := by simp [cellsOf]
                rw [e, List.length_append]
                exact this
              have B8 : Below w.heap.size w w8 := HBw.out.trans ((Below.refl _ _).grown HG8.out sb (fun k e => (own_in HRO.out k e).1))
              have HO8 : Hid _ := O8
              have HB8 : Hid _ := B8
              obtain ⟨oa, on, oc, rfl⟩ := ints_slice (own_ints O8)
              clear O8 B8 HR8 HG8
              go_ret2
              rw [HF.out]
              exact ⟨_, rfl, HO8.out, HB8.out⟩

/-- The places of all chunks of a heap, by the specification. -/
theorem l9Places_any {w : World} {vr vo vm vs : Value} {H : Hp} (h : HpAt w vr vo vm vs H) :
    Calls Tryz.prog 78 #[hpv H vr vo vm vs] w fun e w' => ∃ v', e = .returned (.tuple #[v', .bool (placesR H).isSome]) ∧ rows.Own w' w.heap.size v' ((placesR H).getD []) ∧ Below w.heap.size w w' := by
  cases d : hbad H
  · exact l9Places_good h (nums_of d) d
  · have e : placesR H = none := by unfold placesR; rw [if_pos d]
    rw [e]
    exact places_head h d
end Go.Proofs.YtmhbdmmpmagbkaaGreat.hp
namespace Go.Proofs.YtmhbdmmpmagbkaaGreat.hp
open Go.RowKit rows heads words walks

/-- The worlds that grow out of one. -/
def Ext (n : Nat) (w : World) : Type := { w' : World // Below n w w' }
def Ext.to {n : Nat} {w : World} (x : Ext n w) : World := x.1
theorem Ext.below {n : Nat} {w : World} (x : Ext n w) : Below n w x.to := x.2
theorem Ext.of {n : Nat} {w w' : World} (h : Below n w w') : ∃ x : Ext n w, w' = x.to := ⟨⟨w', h⟩, rfl⟩
theorem region_grow {P : Program} {id n : Nat} {Q : Exit → Act → World → Prop} {a : Act} {w : World} {l : List Oper} (hm : P.follows .mixedOrders = true) (hB : Region.lexB .any l.toArray = true)
    (h : wpQuiet P l.toArray (fun w' => ∃ x : Ext n w, w' = x.to) (fun a' => ∀ w', (∃ x : Ext n w, w' = x.to) → Q .normal a' w') l a) : (Code.region id l.toArray true).wp P Q a w :=
  wp_region_quiet (C := fun w' => ∃ x : Ext n w, w' = x.to) hm hB (Ext.of (Below.refl n w).drew) (by simpa using h)
theorem calls_grow {P : Program} {f : FuncId} {args : Array Value} {n : Nat} {w : World} {x : Ext n w} {v : Value} (hn : n ≤ w.heap.size)
    (h : Calls P f args x.to fun e w' => e = .returned v ∧ Below x.to.heap.size x.to w') : Calls P f args x.to fun e w'' => e = .returned v ∧ ∃ y : Ext n w, w'' = y.to :=
  h.mono fun _ _ ⟨he, hb⟩ => ⟨he, Ext.of (x.below.trans (hb.mono (Nat.le_trans hn x.below.size)))⟩
theorem ext_any (w : World) : Nonempty (Ext w.heap.size w) := ⟨⟨w, Below.refl _ _⟩⟩
theorem nine_grow {w : World} {b : Nat} {t : TypeId} {c0 c1 c2 c3 c4 c5 c6 c7 c8 : Value} (h : Nine w b t c0 c1 c2 c3 c4 c5 c6 c7 c8) :
    ((∀ x : Ext w.heap.size w, x.to.cell? ⟨b, 0, none⟩ = some c0) ∧ (∀ x : Ext w.heap.size w, x.to.cell? ⟨b, 1, none⟩ = some c1) ∧ (∀ x : Ext w.heap.size w, x.to.cell? ⟨b, 2, none⟩ = some c2) ∧ (∀ x : Ext w.heap.size w, x.to.cell? ⟨b, 3, none⟩ = some c3) ∧ (∀ x : Ext w.heap.size w, x.to.cell? ⟨b, 4, none⟩ = some c4)) ∧
    ((∀ x : Ext w.heap.size w, x.to.cell? ⟨b, 5, none⟩ = some c5) ∧ (∀ x : Ext w.heap.size w, x.to.cell? ⟨b, 6, none⟩ = some c6) ∧ (∀ x : Ext w.heap.size w, x.to.cell? ⟨b, 7, none⟩ = some c7) ∧ (∀ x : Ext w.heap.size w, x.to.cell? ⟨b, 8, none⟩ = some c8)) := by
  obtain ⟨⟨k0, k1, k2, k3, k4⟩, ⟨k5, k6, k7, k8⟩, _⟩ := nine_cells h
  have hb := lt_of_block h
  exact ⟨⟨fun x => (x.below.cell (p := ⟨b, 0, none⟩) hb).trans k0, fun x => (x.below.cell (p := ⟨b, 1, none⟩) hb).trans k1, fun x => (x.below.cell (p := ⟨b, 2, none⟩) hb).trans k2, fun x => (x.below.cell (p := ⟨b, 3, none⟩) hb).trans k3, fun x => (x.below.cell (p := ⟨b, 4, none⟩) hb).trans k4⟩, fun x => (x.below.cell (p := ⟨b, 5, none⟩) hb).trans k5, fun x => (x.below.cell (p := ⟨b, 6, none⟩) hb).trans k6, fun x => (x.below.cell (p := ⟨b, 7, none⟩) hb).trans k7, fun x => (x.below.cell (p := ⟨b, 8, none⟩) hb).trans k8⟩
theorem cell_grow {w : World} {p : Addr} {v : Value} (h : w.cell? p = some v) : ∀ x : Ext w.heap.size w, x.to.cell? p = some v := fun x => (x.below.cell (p := p) (World.block_lt_of_cell? _ _ h)).trans h

/-- The words of a chunk, one by one. -/
theorem slots_len {H : Hp} {j : Nat} (hc : chunk H.row j ≠ 0) : (slotsOf H j).length = (cnS (H.row.getD j 0)).toNat := by
  have := chunk_slots hc
  unfold slotsOf
  rw [Int.toNat_natCast, List.length_take, List.length_drop]
  omega
theorem slots_getD {H : Hp} {j : Nat} {k : Nat} (hk : k < (cnS (H.row.getD j 0)).toNat) : (slotsOf H j).getD k 0 = H.row.getD (j + 1 + k) 0 := by
  unfold slotsOf
  rw [Int.toNat_natCast]
  generalize (cnS (H.row.getD j 0)).toNat = n at *
  rw [List.getD_eq_getElem?_getD, List.getD_eq_getElem?_getD, List.getElem?_take, if_pos hk, List.getElem?_drop]
theorem chunk_note {xs : List Int} {j : Nat} (hc : chunk xs j ≠ 0) (h7 : uF (xs.getD j 0) = 7) : isA (xs.getD (j + 1) 0) = true := by
  unfold chunk at hc
  split at hc
  · rw [if_neg (by omega)] at hc
    split at hc
    · rename_i h
      exact h.2 h7
    · exact absurd rfl hc
  · exact absurd rfl hc
theorem notes_of {H : Hp} {ps : List Int} (hp : ∀ p ∈ ps, ∃ j : Nat, p = j ∧ j < H.row.length ∧ chunk H.row j ≠ 0) (hs : slotsOk H ps = true) : Notes H ps := by
  intro p hpp h7
  obtain ⟨j, rfl, hj, hc⟩ := hp p hpp
  rw [Int.toNat_natCast] at h7 ⊢
  have cn : cnS (H.row.getD j 0) = 1 := by unfold cnS; rw [if_pos h7]
  have hb := chunk_slots hc
  rw [cn] at hb
  have hA := chunk_note hc h7
  refine ⟨by omega, hA, ?_⟩
  unfold slotsOk at hs
  rw [List.all_eq_true] at hs
  have h1 := hs _ hpp
  have hl : 0 < (slotsOf H (j : Int)).length := by rw [slots_len hc, cn]; decide
  have h2 := all_at h1 hl
  rw [slots_getD (by rw [cn]; decide)] at h2
  unfold wordIn at h2
  rw [show j + 1 + 0 = j + 1 from rfl, hA] at h2
  simp only [Bool.not_true, Bool.false_or, Bool.and_eq_true, decide_eq_true_eq] at h2
  exact h2.2.1
end Go.Proofs.YtmhbdmmpmagbkaaGreat.hp
namespace Go.Proofs.YtmhbdmmpmagbkaaGreat.copyk
open Go.RowKit

theorem run_copy_k {P : Program} (w : World) (dT sT ty elem : TypeId) (sz : Nat) (hz : 0 < sz) (hu : P.underlying dT = some (.slice elem)) (hs : (P.info? elem).map (·.size) = some sz)
    (dp sp : Option Addr) (dLen dCap sLen sCap : Nat) (g off : Nat) (cur : List Value) (t : TypeId) (hg : w.heap[g]? = some (.cells cur.toArray t (0, 0))) (cs : List Value) (hn : cs.length = Nat.min sLen dLen * sz)
    (hpos : 0 < cs.length → dp = some ⟨g, off, none⟩ ∧ ∃ ad, sp = some ad ∧ ∀ j v, cs[j]? = some v → w.cell? (ad.add j) = some v)
    (hfit : off + cs.length ≤ cur.length) (h1 : ∀ v ∈ cs, v.oneCell' = true) :
    (Builtin.copy_ #[dT, sT] ty #[.slice dp dLen dCap, .slice sp sLen sCap]).run P w = .ok (goInt (Nat.min sLen dLen)) (w.setRow g (splice cur off cs).toArray) := by
  cases hq : P.info? elem with
  | none => simp [hq] at hs
  | some i =>
    have hi : i.size = sz := by simpa [hq] using hs
    by_cases h0 : cs.length = 0
    · obtain rfl : cs = [] := List.eq_nil_of_length_eq_zero h0
      have hm : Nat.min sLen dLen = 0 := by
        rcases Nat.mul_eq_zero.1 hn.symm with h | h
        · exact h
        · omega
      have e : w.setRow g (splice cur off []).toArray = w := by
        have := setRow_self w g cur.toArray t (0, 0) hg
        simpa [splice] using this
      rw [e, hm]
      have hl : ∀ (x : Addr), (loadCells x 0).run P w = .ok #[] w := fun x => by simpa using run_loadCells_list (P := P) w x [] (by simp)
      cases dp <;> cases sp <;> simp [Builtin.copy_, run_underlying hu, Builtin.lenOf, Builtin.firstCells, sizeOf, typeInfo, hq, hm, storeCells, hl]
    · obtain ⟨rfl, ad, rfl, hsrc⟩ := hpos (by omega)
      have hl := run_loadCells_list (P := P) w ad cs hsrc
      have hst := run_storeCells_at P g off t cs 0 cur.toArray w hg (by simpa using hfit) h1
      rw [hn] at hl
      simp [Builtin.copy_, run_underlying hu, Builtin.lenOf, Builtin.firstCells, sizeOf, typeInfo, hq, hi, hl, hst, splice]

theorem setRow_below {B g : Nat} {w0 w : World} (hb : Below B w0 w) (hBg : B ≤ g) (cs : Array Value) : Below B w0 (w.setRow g cs) := below_setRow hb hBg cs

theorem wpList_copy_k {P : Program} {w : World} {ops : Array Oper} {rest : List Oper} {o : Oper} {a : Act} {Q : Exit → Act → World → Prop} (hgd : o.guard = none) (d s : Operand) (dT sT : TypeId)
    (ho : o.op = .call { callee := .builtin .copy, args := #[d, s], argTypes := #[dT, sT] }) (elem : TypeId) (sz : Nat) (hz : 0 < sz) (hu : P.underlying dT = some (.slice elem)) (hsz : (P.info? elem).map (·.size) = some sz)
    (dp sp : Option Addr) (dLen dCap sLen sCap : Nat) (hd : a.eval d = .slice dp dLen dCap) (hs : a.eval s = .slice sp sLen sCap)
    (g off : Nat) (cur : List Value) (t : TypeId) (hg : w.heap[g]? = some (.cells cur.toArray t (0, 0))) (cs : List Value) (hn : cs.length = Nat.min sLen dLen * sz)
    (hpos : 0 < cs.length → dp = some ⟨g, off, none⟩ ∧ ∃ ad, sp = some ad ∧ ∀ j v, cs[j]? = some v → w.cell? (ad.add j) = some v)
    (hfit : off + cs.length ≤ cur.length) (h1 : ∀ v ∈ cs, v.oneCell' = true) (B : Nat) (w0 : World) (hb : Below B w0 w) (hBg : B ≤ g)
    (h : ∀ w', Hid (w'.heap[g]? = some (.cells (splice cur off cs).toArray t (0, 0))) → Hid (∀ k, k ≠ g → w'.heap[k]? = w.heap[k]?) → Below B w0 w' → wpList P ops Q rest (a.put o.dst (goInt (Nat.min sLen dLen))) w') :
    wpList P ops Q (o :: rest) a w := by
  refine wpList_plain hgd fun K hK => ?_
  have hrun := run_copy_k (P := P) w dT sT o.type elem sz hz hu hsz dp sp dLen dCap sLen sCap g off cur t hg cs hn hpos hfit h1
  unfold Oper.wp
  simp [execOp, ho, resolve, invoke, builtin, hd, hs, hrun, Result.andThen]
  refine hK _ _ ?_
  have := h (w.setRow g (splice cur off cs).toArray) (setRow_heap w g _ _ t _ hg) (fun k hk => setRow_other w g k _ hk) (below_setRow hb hBg _)
  exact this

theorem step_copy_k {P : Program} {ops : Array Oper} {o : Oper} {a : Act} {w : World} {K : Act → World → Prop} {Q : Exit → Act → World → Prop} {E : Prop} (hgd : o.guard = none) (d s : Operand) (dT sT : TypeId)
    (ho : o.op = .call { callee := .builtin .copy, args := #[d, s], argTypes := #[dT, sT] }) (elem : TypeId) (sz : Nat) (hz : 0 < sz) (hu : P.underlying dT = some (.slice elem)) (hsz : (P.info? elem).map (·.size) = some sz)
    (dp sp : Option Addr) (dLen dCap sLen sCap : Nat) (hd : a.eval d = .slice dp dLen dCap) (hs : a.eval s = .slice sp sLen sCap)
    (g off : Nat) (cur : List Value) (t : TypeId) (hg : w.heap[g]? = some (.cells cur.toArray t (0, 0))) (cs : List Value) (hn : cs.length = Nat.min sLen dLen * sz)
    (hpos : 0 < cs.length → dp = some ⟨g, off, none⟩ ∧ ∃ ad, sp = some ad ∧ ∀ j v, cs[j]? = some v → w.cell? (ad.add j) = some v)
    (hfit : off + cs.length ≤ cur.length) (h1 : ∀ v ∈ cs, v.oneCell' = true) (B : Nat) (w0 : World) (hb : Below B w0 w) (hBg : B ≤ g)
    (h : ∀ w', Hid (w'.heap[g]? = some (.cells (splice cur off cs).toArray t (0, 0))) → Hid (∀ k, k ≠ g → w'.heap[k]? = w.heap[k]?) → Below B w0 w' → K (a.put o.dst (goInt (Nat.min sLen dLen))) w') :
    if Region.wanted o (yielded ops a.tmps) = true then Oper.wp P o a w K Q else E := by
  have hw : Region.wanted o (yielded ops a.tmps) = true := by simp [Region.wanted, hgd]
  rw [if_pos hw]
  have hrun := run_copy_k (P := P) w dT sT o.type elem sz hz hu hsz dp sp dLen dCap sLen sCap g off cur t hg cs hn hpos hfit h1
  unfold Oper.wp
  simp [execOp, ho, resolve, invoke, builtin, hd, hs, hrun, Result.andThen]
  exact h (w.setRow g (splice cur off cs).toArray) (setRow_heap w g _ _ t _ hg) (fun k hk => setRow_other w g k _ hk) (below_setRow hb hBg _)

/-- 'clear(s)': the zero value's cells, over and over. -/
theorem run_clear_k {P : Program} (w : World) (t e ty : TypeId) (z : Value) (sz : Nat) (hu : P.underlying t = some (.slice e)) (hv : ∀ w, (zeroValue e).run P w = .ok z w)
    (ap : Option Addr) (n c : Nat) (g off : Nat) (cur : List Value) (ct : TypeId) (hg : w.heap[g]? = some (.cells cur.toArray ct (0, 0))) (hpos : 0 < n → ap = some ⟨g, off, none⟩)
    (hl : (Builtin.zeroCells z.cells n).toList.length = n * sz) (h1 : ∀ v ∈ (Builtin.zeroCells z.cells n).toList, v.oneCell' = true) (hfit : off + n * sz ≤ cur.length) :
    ∃ w', (Builtin.clear_ #[t] ty #[.slice ap n c]).run P w = .ok (.tuple #[]) w' ∧ w'.heap[g]? = some (.cells (if n = 0 then cur else splice cur off (Builtin.zeroCells z.cells n).toList).toArray ct (0, 0)) ∧ (∀ k, k ≠ g → w'.heap[k]? = w.heap[k]?) ∧ ∀ {B : Nat} {w0 : World}, Below B w0 w → B ≤ g → Below B w0 w' := by
  cases n with
  | zero =>
    refine ⟨w, ?_, by simpa using hg, fun _ _ => rfl, fun h _ => h⟩
    cases ap <;> simp [Builtin.clear_, run_underlying hu]
  | succ n =>
    obtain rfl := hpos (by omega)
    have hst := run_storeCells_at P g off ct (Builtin.zeroCells z.cells (n + 1)).toList 0 cur.toArray w hg (by rw [hl]; simpa using hfit) h1
    refine ⟨w.setRow g (splice cur off (Builtin.zeroCells z.cells (n + 1)).toList).toArray, ?_, ?_, fun k hk => setRow_other w g k _ hk, fun h h' => below_setRow h h' _⟩
    · simp only [Builtin.clear_]
      simp [run_underlying hu, hv, hst, splice]
    · simpa using setRow_heap w g _ (splice cur off (Builtin.zeroCells z.cells (n + 1)).toList).toArray ct _ hg
end Go.Proofs.YtmhbdmmpmagbkaaGreat.copyk
namespace Go.Proofs.YtmhbdmmpmagbkaaGreat.heads
open Go.RowKit
set_option maxRecDepth 100000

/-- A chunk as a value: its head's six fields and its words. -/
abbrev cv (s f c h : Int) (p m : Bool) (u : Value) : Value := .agg #[.int .i64 s, .int .i64 f, .int .i64 c, .int .i64 h, .bool p, .bool m, u]
/-- The block in which a chunk lies. -/
abbrev cb (s f c h : Int) (p m : Bool) (u : Value) : Obj := .cells #[.int .i64 s, .int .i64 f, .int .i64 c, .int .i64 h, .bool p, .bool m, u] 87
/-- The block b holds such a chunk. -/
def ChAt (w : World) (b : Nat) (s f c h : Int) (p m : Bool) (u : Value) : Prop := w.heap[b]? = some (.cells #[.int .i64 s, .int .i64 f, .int .i64 c, .int .i64 h, .bool p, .bool m, u] 87 (0, 0))

theorem chAt_cells {w : World} {b : Nat} {s f c h : Int} {p m : Bool} {u : Value} (hh : ChAt w b s f c h p m u) :
    w.cell? ⟨b, 0, none⟩ = some (.int .i64 s) ∧ w.cell? ⟨b, 1, none⟩ = some (.int .i64 f) ∧ w.cell? ⟨b, 2, none⟩ = some (.int .i64 c) ∧ w.cell? ⟨b, 3, none⟩ = some (.int .i64 h) ∧ w.cell? ⟨b, 4, none⟩ = some (.bool p) ∧ w.cell? ⟨b, 5, none⟩ = some (.bool m) ∧ w.cell? ⟨b, 6, none⟩ = some u ∧ ∀ k, w.frozen? ⟨b, k, none⟩ = false := by
  unfold ChAt at hh
  refine ⟨?_, ?_, ?_, ?_, ?_, ?_, ?_, fun k => ?_⟩
  all_goals simp [World.cell?, World.frozen?, hh]
theorem chAt_new (w : World) (s f c h : Int) (p m : Bool) (u : Value) : ChAt (w.alloc (cb s f c h p m u)) w.heap.size s f c h p m u := heap_alloc_new w _
theorem chAt_alloc {w : World} {b : Nat} {s f c h : Int} {p m : Bool} {u : Value} (hh : ChAt w b s f c h p m u) (o : Obj) : ChAt (w.alloc o) b s f c h p m u := (Below.heap_alloc w o b (lt_of_block hh)).trans hh
theorem chAt_below {w w' : World} {b : Nat} {s f c h : Int} {p m : Bool} {u : Value} (T : ChAt w b s f c h p m u) (hb : Below w.heap.size w w') : ChAt w' b s f c h p m u := (hb.block b (lt_of_block T)).trans T
theorem chAt_set0 {w : World} {b : Nat} {s f c h : Int} {p m : Bool} {u : Value} (hh : ChAt w b s f c h p m u) (x : Int) : ChAt (w.setCell ⟨b, 0, none⟩ (.int .i64 x)) b x f c h p m u := (cells_setCell hh 0 _).trans rfl
theorem chAt_set1 {w : World} {b : Nat} {s f c h : Int} {p m : Bool} {u : Value} (hh : ChAt w b s f c h p m u) (x : Int) : ChAt (w.setCell ⟨b, 1, none⟩ (.int .i64 x)) b s x c h p m u := (cells_setCell hh 1 _).trans rfl
theorem chAt_set2 {w : World} {b : Nat} {s f c h : Int} {p m : Bool} {u : Value} (hh : ChAt w b s f c h p m u) (x : Int) : ChAt (w.setCell ⟨b, 2, none⟩ (.int .i64 x)) b s f x h p m u := (cells_setCell hh 2 _).trans rfl
theorem chAt_set3 {w : World} {b : Nat} {s f c h : Int} {p m : Bool} {u : Value} (hh : ChAt w b s f c h p m u) (x : Int) : ChAt (w.setCell ⟨b, 3, none⟩ (.int .i64 x)) b s f c x p m u := (cells_setCell hh 3 _).trans rfl
theorem chAt_set4 {w : World} {b : Nat} {s f c h : Int} {p m : Bool} {u : Value} (hh : ChAt w b s f c h p m u) (x : Bool) : ChAt (w.setCell ⟨b, 4, none⟩ (.bool x)) b s f c h x m u := (cells_setCell hh 4 _).trans rfl
theorem chAt_set5 {w : World} {b : Nat} {s f c h : Int} {p m : Bool} {u : Value} (hh : ChAt w b s f c h p m u) (x : Bool) : ChAt (w.setCell ⟨b, 5, none⟩ (.bool x)) b s f c h p x u := (cells_setCell hh 5 _).trans rfl
theorem chAt_set6 {w : World} {b : Nat} {s f c h : Int} {p m : Bool} {u : Value} (hh : ChAt w b s f c h p m u) (x : Value) : ChAt (w.setCell ⟨b, 6, none⟩ x) b s f c h p m x := (cells_setCell hh 6 _).trans rfl
theorem seven_set {X : World} {b : Nat} {s' f' c' h' : Int} {p' m' : Bool} {u' : Value} (T : ChAt X b s' f' c' h' p' m' u') (s f c h : Int) (p m : Bool) (u : Value) :
    ChAt (((((((X.setCell ⟨b, 0, none⟩ (.int .i64 s)).setCell ⟨b, 1, none⟩ (.int .i64 f)).setCell ⟨b, 2, none⟩ (.int .i64 c)).setCell ⟨b, 3, none⟩ (.int .i64 h)).setCell ⟨b, 4, none⟩ (.bool p)).setCell ⟨b, 5, none⟩ (.bool m)).setCell ⟨b, 6, none⟩ u) b s f c h p m u := 
  chAt_set6 (chAt_set5 (chAt_set4 (chAt_set3 (chAt_set2 (chAt_set1 (chAt_set0 T _) _) _) _) _) _) _
theorem seven_below {n : Nat} {w X : World} {b : Nat} (hB : Below n w X) (hb : n ≤ b) (s f c h : Int) (p m : Bool) (u : Value) : Below n w (((((((X.setCell ⟨b, 0, none⟩ (.int .i64 s)).setCell ⟨b, 1, none⟩ (.int .i64 f)).setCell ⟨b, 2, none⟩ (.int .i64 c)).setCell ⟨b, 3, none⟩ (.int .i64 h)).setCell ⟨b, 4, none⟩ (.bool p)).setCell ⟨b, 5, none⟩ (.bool m)).setCell ⟨b, 6, none⟩ u) :=
  (six_below hB hb s f c h p m).setCell (p := ⟨b, 6, none⟩) hb _
theorem res_chunk_one {fn : Func} {tmps : Array Value} {X : World} {j k b : Nat} {s f c h : Int} {p m : Bool} {u v : Value} (hf : fn.results = #[.cell j 87, .tmp k]) (h2 : tmps[j]? = some (.pointer (some ⟨b, 0, none⟩))) (hk : tmps[k]? = some v) (hX : ChAt X b s f c h p m u) :
    (results fn tmps).run Tryz.prog X = .ok (.tuple #[cv s f c h p m u, v]) X := by
  obtain ⟨k0, k1, k2, k3, k4, k5, k6, _⟩ := chAt_cells hX
  clear hX
  simp [results, hf, h2, hk, go_sem, k0, k1, k2, k3, k4, k5, k6]
theorem res_head_one {fn : Func} {tmps : Array Value} {X : World} {j k b : Nat} {s f c h : Int} {p m : Bool} {v : Value} (hf : fn.results = #[.cell j 69, .tmp k]) (h2 : tmps[j]? = some (.pointer (some ⟨b, 0, none⟩))) (hk : tmps[k]? = some v) (hX : HeadAt X b s f c h p m) :
    (results fn tmps).run Tryz.prog X = .ok (.tuple #[hv s f c h p m, v]) X := by
  obtain ⟨k0, k1, k2, k3, k4, k5, _⟩ := headAt_cells hX
  clear hX
  simp [results, hf, h2, hk, go_sem, k0, k1, k2, k3, k4, k5]

theorem size_any (s f c h : Int) (p m : Bool) (a : Option Addr) (len cap : Nat) (w : World) :
    Calls Tryz.prog 83 #[cv s f c h p m (.slice a len cap)] w fun e w' => e = .returned (.int .i64 len) ∧ w' = w.alloc (cb s f c h p m (.slice a len cap)) := by
  go_enter Tryz.func83, Tryz.ntmps83
  go_wp2
  go_ret
  exact ⟨rfl, rfl⟩
theorem isNote_any (s f c h : Int) (p m : Bool) (u : Value) (w : World) :
    Calls Tryz.prog 112 #[cv s f c h p m u] w fun e w' => e = .returned (.bool (f == 7)) ∧ w' = w.alloc (cb s f c h p m u) := by
  go_enter Tryz.func112, Tryz.ntmps112
  go_wp2
  go_ret
  exact ⟨rfl, rfl⟩
end Go.Proofs.YtmhbdmmpmagbkaaGreat.heads
namespace Go.Proofs.YtmhbdmmpmagbkaaGreat.rows
open Go.RowKit
set_option maxRecDepth 100000

theorem isRow_any {w : World} {v : Value} {xs : List Int} (h : IntsAt w v xs) :
    Calls Tryz.prog 158 #[v] w fun e w' => e = .returned (.bool (rowOk xs)) ∧ w' = w := by
  obtain ⟨a, cap, rfl, hlc, hcm, _, hc⟩ := h
  clear hc
  by_cases h1 : xs.length ≤ 1000
  · have h2 : (xs.length : Int) ≤ 1000 := by omega
    go_enter Tryz.func158, Tryz.ntmps158
    go_wp2
    go_ret
    exact ⟨by simp [rowOk, h1], rfl⟩
  · have h2 : ¬ (xs.length : Int) ≤ 1000 := by omega
    go_enter Tryz.func158, Tryz.ntmps158
    go_wp2
    go_ret
    exact ⟨by simp [rowOk]; omega, rfl⟩

/-- Is there a piece of n places from f on? -/
def cutOk (len : Nat) (f n : Int) : Bool := decide (0 ≤ f ∧ 0 ≤ n ∧ f + n ≤ len)
theorem cutOk_true {len : Nat} {f n : Int} (h : cutOk len f n = true) : 0 ≤ f ∧ 0 ≤ n ∧ f + n ≤ len := by simpa [cutOk] using h
theorem cutOk_false {len : Nat} {f n : Int} (h : cutOk len f n = false) : ¬ (0 ≤ f ∧ 0 ≤ n ∧ f + n ≤ len) := by simpa [cutOk] using h
/-- The piece of n places from f on. -/
def piece (a : Option Addr) (f n : Nat) : Value := .slice (if n = 0 then a else a.map (·.add f)) n n

theorem cut_no {w : World} {a : Option Addr} {len cap : Nat} (hlc : len ≤ cap) (hcm : cap ≤ maxLen) (f n : Int) (hf : I64 f) (hn : I64 n) (d : cutOk len f n = false) :
    Calls Tryz.prog 110 #[.slice a len cap, .int .i64 f, .int .i64 n] w fun e w' => e = .returned (.tuple #[.slice none 0 0, .bool false]) ∧ w' = w := by
  unfold I64 at hf hn
  unfold maxLen at hcm
  have d' := cutOk_false d
  clear d
  by_cases h1 : f < 0
  · go_enter Tryz.func110, Tryz.ntmps110
    go_wp2
    go_ret2
    exact ⟨rfl, rfl⟩
  · by_cases h2 : n < 0
    · go_enter Tryz.func110, Tryz.ntmps110
      go_wp2
      go_ret2
      exact ⟨rfl, rfl⟩
    · have h3 : n > (len : Int) - f := by omega
      go_enter Tryz.func110, Tryz.ntmps110
      go_wp2
      go_ret2
      exact ⟨rfl, rfl⟩

theorem cut_yes {w : World} {a : Option Addr} {len cap : Nat} (hlc : len ≤ cap) (hcm : cap ≤ maxLen) (F N : Nat) (fn : F + N ≤ len) :
    Calls Tryz.prog 110 #[.slice a len cap, .int .i64 F, .int .i64 N] w fun e w' => e = .returned (.tuple #[piece a F N, .bool true]) ∧ w' = w := by
  unfold maxLen at hcm
  have h1 : ¬ (F : Int) < 0 := by omega
  have h2 : ¬ (N : Int) < 0 := by omega
  have h3 : ¬ (N : Int) > (len : Int) - F := by omega
  go_enter Tryz.func110, Tryz.ntmps110
  go_wp2
  all_goals go_ret2
  · exact ⟨by simp [piece, *], rfl⟩
  · exact ⟨by simp [piece, *], rfl⟩

theorem piece_at (b off k n : Nat) (hn : 0 < n) : piece (some ⟨b, off, none⟩) k n = .slice (some ⟨b, off + k, none⟩) n n := by
  have hn' : n ≠ 0 := by omega
  by_cases h0 : k = 0
  · subst h0; simp [piece, Addr.add]
  · simp [piece, Addr.add, h0, hn']
theorem piece_none (a : Option Addr) (k : Nat) : piece a k 0 = .slice a 0 0 := by simp [piece]

end Go.Proofs.YtmhbdmmpmagbkaaGreat.rows
namespace Go.Proofs.YtmhbdmmpmagbkaaGreat.rows
open Go.RowKit
set_option maxRecDepth 100000

theorem implReadAt (w : World) (v : Value) (xs : List Int) (i : Int) (h : IntsAt w v xs) (hl : xs.length ≤ 1048576) (hi : I64 i) :
    Calls Tryz.prog 141 #[v, .int .i64 i] w fun e w' => e = .returned (.tuple #[.int .i64 (readAt xs i), .bool (okAt xs i)]) ∧ Below w.heap.size w w' := by
  have h' := h
  obtain ⟨a, cap, rfl, hlc, hcm, _, hc⟩ := h
  cases d1 : rowOk xs
  · have eo : okAt xs i = false := by simp [okAt, d1]
    have er : readAt xs i = 0 := by simp [readAt, eo]
    rw [er, eo]
    clear hc er
    go_enter Tryz.func141, Tryz.ntmps141
    go_wp2_with (go_at_call 158; refine (isRow_any h').mono ?_; rintro e w' ⟨rfl, hw⟩; rw [hw]; clear hw w')
    go_ret2
    exact ⟨rfl, Below.refl _ _⟩
  · cases d2 : atOk xs i
    · have eo : okAt xs i = false := by simp [okAt, d2]
      have er : readAt xs i = 0 := by simp [readAt, eo]
      have dc : cutOk xs.length i 1 = false := by simp [cutOk, atOk] at d2 ⊢; omega
      rw [er, eo]
      clear hc er
      go_enter Tryz.func141, Tryz.ntmps141
      go_wp2_with (go_at_call 158; refine (isRow_any h').mono ?_; rintro e w' ⟨rfl, hw⟩; rw [hw]; clear hw w')
      refine (cut_no hlc hcm i 1 hi ⟨by decide, by decide⟩ dc).mono ?_
      rintro e w' ⟨rfl, hw⟩
      rw [hw]
      clear hw w'
      go_wp2
      go_ret2
      exact ⟨rfl, Below.refl _ _⟩
    · have eo : okAt xs i = true := by simp [okAt, d1, d2]
      obtain ⟨p1, p2⟩ := atOk_true d2
      obtain ⟨k, rfl⟩ := Int.eq_ofNat_of_zero_le p1
      obtain ⟨b, off, rfl, hb, hcc⟩ := hc (by omega)
      have c0 := hcc k (by omega)
      have er : readAt xs k = xs.getD k 0 := by simp [readAt, eo]
      have ep := piece_at b off k 1 (by decide)
      rw [er, eo]
      clear hc hcc er
      generalize xs.getD k 0 = x at *
      go_enter Tryz.func141, Tryz.ntmps141
      go_wp2_with (go_at_call 158; refine (isRow_any h').mono ?_; rintro e w' ⟨rfl, hw⟩; rw [hw]; clear hw w')
      refine (cut_yes hlc hcm k 1 (by omega)).mono ?_
      rintro e w' ⟨rfl, hw⟩
      rw [hw, ep]
      clear hw w' ep
      go_wp2
      go_ret2
      exact ⟨rfl, Below.refl _ _⟩
end Go.Proofs.YtmhbdmmpmagbkaaGreat.rows
namespace Go.Proofs.YtmhbdmmpmagbkaaGreat.walks
open Go.RowKit rows heads words
set_option maxRecDepth 100000

theorem headAt_no {w : World} {v : Value} {xs : List Int} (h : IntsAt w v xs) (hl : xs.length ≤ 1048576) (i : Int) (hi : I64 i) (d : okAt xs i = false) :
    Calls Tryz.prog 109 #[v, .int .i64 i] w fun e w' => e = .returned (.tuple #[hv 0 0 0 0 false false, .bool false]) ∧ Below w.heap.size w w' := by
  have B0 : Below w.heap.size w (w.alloc (hb 0 0 0 0 false false)) := (Below.refl _ _).alloc (Nat.le_refl _) _
  have T0 := headAt_new w 0 0 0 0 false false
  have s0 : w.heap.size + 1 ≤ (w.alloc (hb 0 0 0 0 false false)).heap.size := by simp
  have RD := implReadAt _ v xs i (intsAt_below h B0) hl hi
  rw [d] at RD
  go_enter Tryz.func109, Tryz.ntmps109
  go_wp2_with fail
  generalize (w.alloc (Obj.cells #[.int .i64 0, .int .i64 0, .int .i64 0, .int .i64 0, .bool false, .bool false] 69)) = X at *
  refine RD.mono ?_
  rintro e w1 ⟨rfl, b1⟩
  have T1 := headAt_below T0 b1
  have B1 := B0.trans (b1.mono (by omega))
  obtain ⟨t0, t1, t2, t3, t4, t5, tf⟩ := headAt_cells T1
  have f0 := tf 0; have f1 := tf 1; have f2 := tf 2; have f3 := tf 3; have f4 := tf 4; have f5 := tf 5
  have T2 : Hid _ := six_set T1 0 0 0 0 false false
  have B2 : Hid _ := six_below B1 (Nat.le_refl _) 0 0 0 0 false false
  clear b1 RD T0 B0 B1 tf T1
  generalize readAt xs i = z at *
  go_wp2
  exact bodyPost_ret (v := .tuple #[hv 0 0 0 0 false false, .bool false]) (res_head_one rfl rfl rfl T2) rfl ⟨rfl, B2⟩

theorem headAt_drew {w : World} {b : Nat} {s f c h : Int} {p m : Bool} (hh : HeadAt w b s f c h p m) : HeadAt w.drew b s f c h p m := hh

theorem headAt_yes {w : World} {v : Value} {xs : List Int} (h : IntsAt w v xs) (hl : xs.length ≤ 1048576) (k : Nat) (d : okAt xs k = true) (hx : I64 (xs.getD k 0)) :
    Calls Tryz.prog 109 #[v, .int .i64 k] w fun e w' => e = .returned (.tuple #[hv (uS (xs.getD k 0)) (uF (xs.getD k 0)) (uC (xs.getD k 0)) (uH (xs.getD k 0)) (uP (xs.getD k 0)) (uM (xs.getD k 0)), .bool (ok (xs.getD k 0) && !uM (xs.getD k 0))]) ∧ Below w.heap.size w w' := by
  have hk : (k : Int) < xs.length := (atOk_true (by simp only [okAt, Bool.and_eq_true] at d; exact d.2)).2
  have B0 : Below w.heap.size w (w.alloc (hb 0 0 0 0 false false)) := (Below.refl _ _).alloc (Nat.le_refl _) _
  have T0 := headAt_new w 0 0 0 0 false false
  have s0 : w.heap.size + 1 ≤ (w.alloc (hb 0 0 0 0 false false)).heap.size := by simp
  have RD := implReadAt _ v xs k (intsAt_below h B0) hl ⟨by omega, by omega⟩
  have er : readAt xs k = xs.getD k 0 := by simp [readAt, d]
  rw [d, er] at RD
  generalize xs.getD k 0 = x at *
  have UN : ∀ W, _ := fun W => unpacked_any x hx.2 W
  generalize ok x = o at *
  generalize uS x = s at *
  generalize uF x = f at *
  generalize uC x = c at *
  generalize uH x = g at *
  generalize uP x = p at *
  generalize uM x = m at *
  clear er
  go_enter Tryz.func109, Tryz.ntmps109
  go_wp2_with fail
  generalize (w.alloc (Obj.cells #[.int .i64 0, .int .i64 0, .int .i64 0, .int .i64 0, .bool false, .bool false] 69)) = X at *
  refine RD.mono ?_
  rintro e w1 ⟨rfl, b1⟩
  have s1 := b1.size
  have T1 := headAt_below T0 b1
  have B1 := B0.trans (b1.mono (by omega))
  clear b1 RD T0 B0
  go_wp2_with fail
  refine (UN _).mono ?_
  clear UN
  rintro e w2 ⟨rfl, b2⟩
  have s2 := b2.size
  have T2 := headAt_alloc (headAt_below T1 b2) (hb s f c g p m)
  have B2 := (B1.trans (b2.mono (by omega))).alloc (by omega) (hb s f c g p m)
  have N2 := headAt_new w2 s f c g p m
  clear b2 T1 B1
  have ne : w.heap.size ≠ w2.heap.size := by omega
  go_wp2_with fail
  generalize hY : w2.alloc (Obj.cells #[.int .i64 s, .int .i64 f, .int .i64 c, .int .i64 g, .bool p, .bool m] 69) = Y at *
  clear hY
  have T2 : HeadAt Y w.heap.size 0 0 0 0 false false := T2
  have N2 : HeadAt Y w2.heap.size s f c g p m := N2
  have B2 : Below w.heap.size w Y := B2
  obtain ⟨t0, t1, t2, t3, t4, t5, tf⟩ := headAt_cells T2
  have f0 := tf 0; have f1 := tf 1; have f2 := tf 2; have f3 := tf 3; have f4 := tf 4; have f5 := tf 5
  obtain ⟨n0, n1, n2, n3, n4, n5, nf⟩ := headAt_cells N2
  have T3 : Hid _ := headAt_drew (six_set T2 s f c g p m)
  have B3 : Hid _ := (six_below B2 (Nat.le_refl _) s f c g p m).drew
  clear tf nf N2 B2 T2
  cases o
  · go_region
    all_goals go_wp2
    all_goals exact bodyPost_ret (v := .tuple #[hv s f c g p m, .bool false]) (res_head_one rfl rfl rfl T3) rfl ⟨rfl, B3⟩
  · go_region
    all_goals go_wp2
    all_goals exact bodyPost_ret (v := .tuple #[hv s f c g p m, .bool (!m)]) (res_head_one rfl rfl rfl T3) rfl ⟨rfl, B3⟩

/-- Is this what a free chunk may say of itself? -/
def csOk (n : Int) : Bool := decide (2 ≤ n ∧ n % 2 = 0)
theorem chunkSizeOk_any (n : Int) (w : World) (hn : I64 n) :
    Calls Tryz.prog 144 #[.int .i64 n] w fun e w' => e = .returned (.bool (csOk n)) ∧ w' = w := by
  unfold I64 at hn
  by_cases h1 : n ≥ 2
  · by_cases h2 : n % 2 = 0
    · have e : csOk n = true := by simp [csOk, h2]; omega
      go_enter Tryz.func144, Tryz.ntmps144
      go_wp2
      go_ret
      exact ⟨by simp [e], rfl⟩
    · have e : csOk n = false := by simp [csOk, h2]
      go_enter Tryz.func144, Tryz.ntmps144
      go_wp2
      go_ret
      exact ⟨by simp [e, h2], rfl⟩
  · have e : csOk n = false := by simp [csOk]; omega
    go_enter Tryz.func144, Tryz.ntmps144
    go_wp2
    go_ret
    exact ⟨rfl, rfl⟩

/-- What the head, or the word behind it, tells of the size; 0: nothing. -/
def sbOf (xs : List Int) (k : Nat) (s f : Int) : Int := if f = 6 then (if csOk (readAt xs ((k : Int) + 1)) = true then readAt xs ((k : Int) + 1) else 0) else sz s

theorem readAt_I {xs : List Int} (h : AllI xs) (i : Int) : I64 (readAt xs i) := by
  unfold readAt
  split
  · rename_i d
    simp only [okAt, Bool.and_eq_true] at d
    have := atOk_true d.2
    exact allI_at h (by omega)
  · exact ⟨by decide, by decide⟩

theorem sizeBy_any {w : World} {v : Value} {xs : List Int} (h : IntsAt w v xs) (hl : xs.length ≤ 1048576) (ha : AllI xs) (k : Nat) (hk : k ≤ 1048576) (s f c g : Int) (p m : Bool) :
    Calls Tryz.prog 111 #[v, .int .i64 k, hv s f c g p m] w fun e w' => e = .returned (.int .i64 (sbOf xs k s f)) ∧ Below w.heap.size w w' := by
  have B0 : Below w.heap.size w (w.alloc (hb s f c g p m)) := (Below.refl _ _).alloc (Nat.le_refl _) _
  have s0 : w.heap.size ≤ (w.alloc (hb s f c g p m)).heap.size := by simp
  have RD := implReadAt _ v xs ((k : Int) + 1) (intsAt_below h B0) hl ⟨by omega, by omega⟩
  have IY := readAt_I ha ((k : Int) + 1)
  by_cases h6 : f = 6
  · have e : sbOf xs k s f = if csOk (readAt xs ((k : Int) + 1)) = true then readAt xs ((k : Int) + 1) else 0 := by simp [sbOf, h6]
    rw [e]
    generalize readAt xs ((k : Int) + 1) = y at *
    generalize okAt xs ((k : Int) + 1) = o at *
    have CS : ∀ W, _ := fun W => chunkSizeOk_any y W IY
    subst h6
    clear e ha
    cases d : csOk y
    · have E : (if false = true then y else 0) = 0 := rfl
      rw [E]
      clear E
      go_enter Tryz.func111, Tryz.ntmps111
      go_wp2_with fail
      generalize (w.alloc (Obj.cells #[.int .i64 s, .int .i64 6, .int .i64 c, .int .i64 g, .bool p, .bool m] 69)) = X at *
      refine RD.mono ?_
      rintro e w1 ⟨rfl, b1⟩
      have B1 : Hid _ := B0.trans (b1.mono s0)
      clear b1 RD B0
      go_wp2_with (go_at_call 144; refine (CS _).mono ?_; rintro e w2 ⟨rfl, rfl⟩)
      go_ret
      exact ⟨rfl, B1⟩
    · have E : (if true = true then y else 0) = y := rfl
      rw [E]
      clear E
      go_enter Tryz.func111, Tryz.ntmps111
      go_wp2_with fail
      generalize (w.alloc (Obj.cells #[.int .i64 s, .int .i64 6, .int .i64 c, .int .i64 g, .bool p, .bool m] 69)) = X at *
      refine RD.mono ?_
      rintro e w1 ⟨rfl, b1⟩
      have B1 : Hid _ := B0.trans (b1.mono s0)
      clear b1 RD B0
      go_wp2_with (go_at_call 144; refine (CS _).mono ?_; rintro e w2 ⟨rfl, rfl⟩)
      go_ret
      exact ⟨rfl, B1⟩
  · have e : sbOf xs k s f = sz s := by simp [sbOf, h6]
    rw [e]
    clear RD e
    go_enter Tryz.func111, Tryz.ntmps111
    go_wp2_with (go_at_call 143; refine (sizeOf_any _ _).mono ?_; rintro e w2 ⟨rfl, rfl⟩)
    go_ret
    exact ⟨rfl, B0⟩
end Go.Proofs.YtmhbdmmpmagbkaaGreat.walks
namespace Go.Proofs.YtmhbdmmpmagbkaaGreat.walks
open Go.RowKit rows heads words
set_option maxRecDepth 100000

theorem sbOf_I {xs : List Int} (ha : AllI xs) (k : Nat) (s f : Int) : I64 (sbOf xs k s f) := by
  have := readAt_I ha ((k : Int) + 1)
  unfold sbOf
  split
  · split
    · exact this
    · exact ⟨by decide, by decide⟩
  · unfold sz I64
    split
    · rename_i h; have := inR_true h; omega
    · omega

theorem cutOk_of {len : Nat} {f n : Int} (h : 0 ≤ f ∧ 0 ≤ n ∧ f + n ≤ len) : cutOk len f n = true := by simpa [cutOk] using h
/-- The chunk, as the program reckons it. -/
theorem chunk_by {xs : List Int} {k : Nat} (d : okAt xs k = true) (e : (ok (xs.getD k 0) && !uM (xs.getD k 0)) = true) :
    chunk xs k = if cutOk xs.length k (sbOf xs k (uS (xs.getD k 0)) (uF (xs.getD k 0))) = true ∧ sbOf xs k (uS (xs.getD k 0)) (uF (xs.getD k 0)) ≠ 0 ∧ (uF (xs.getD k 0) = 7 → isA (xs.getD (k + 1) 0) = true)
      then sbOf xs k (uS (xs.getD k 0)) (uF (xs.getD k 0)) else 0 := by
  have bs := uS_bounds (xs.getD k 0)
  have zs := sz_bounds bs.1 bs.2
  simp only [okAt, Bool.and_eq_true] at d
  have hk := atOk_true d.2
  unfold chunk
  rw [if_pos e]
  unfold sbOf
  by_cases h6 : uF (xs.getD k 0) = 6
  · rw [if_pos h6, if_pos h6, h6]
    by_cases hk1 : k + 1 < xs.length
    · have er : readAt xs ((k : Int) + 1) = xs.getD (k + 1) 0 := by
        have : okAt xs ((k : Int) + 1) = true := by simp only [okAt, Bool.and_eq_true]; exact ⟨d.1, by simp [atOk]; omega⟩
        simp only [readAt, this, if_true]
        congr 1
      rw [er]
      generalize xs.getD (k + 1) 0 = y
      by_cases hf : freeOk xs.length k y = true
      · have hf' := hf
        simp only [freeOk, decide_eq_true_eq] at hf'
        have hc : csOk y = true := by simp [csOk]; omega
        rw [if_pos ⟨hk1, hf⟩, if_pos hc, if_pos]
        exact ⟨cutOk_of (by omega), by omega, by omega⟩
      · rw [if_neg (by simp [hf])]
        by_cases hc : csOk y = true
        · rw [if_pos hc, if_neg]
          rintro ⟨h1, h2, _⟩
          simp only [freeOk, decide_eq_true_eq] at hf
          simp only [csOk, decide_eq_true_eq] at hc
          have := cutOk_true h1
          omega
        · rw [if_neg hc, if_neg (by simp)]
    · have er : readAt xs ((k : Int) + 1) = 0 := by
        have : okAt xs ((k : Int) + 1) = false := by simp [okAt, atOk]; omega
        simp [readAt, this]
      rw [er, if_neg (by omega)]
      simp
  · rw [if_neg h6, if_neg h6]
    by_cases hc : (k : Int) + sz (uS (xs.getD k 0)) ≤ xs.length ∧ (uF (xs.getD k 0) = 7 → isA (xs.getD (k + 1) 0) = true)
    · rw [if_pos hc, if_pos]
      exact ⟨cutOk_of (by omega), by omega, hc.2⟩
    · rw [if_neg hc, if_neg]
      rintro ⟨h1, _, h3⟩
      have := cutOk_true h1
      exact hc ⟨by omega, h3⟩

theorem sbOf_two (xs : List Int) (k : Nat) (s f : Int) : sbOf xs k s f = 0 ∨ 2 ≤ sbOf xs k s f := by
  unfold sbOf
  split
  · split
    · rename_i h
      simp only [csOk, decide_eq_true_eq] at h
      exact .inr h.1
    · exact .inl rfl
  · unfold sz
    split
    · rename_i h; have := inR_true h; omega
    · exact .inl rfl
/-- The zero chunk, and no. -/
abbrev noChunk : Value := .tuple #[cv 0 0 0 0 false false (.slice none 0 0), .bool false]

theorem chunkOf_out {w : World} {v : Value} {xs : List Int} (h : IntsAt w v xs) (hl : xs.length ≤ 1048576) (i : Int) (hi : I64 i) (d : okAt xs i = false) :
    Calls Tryz.prog 82 #[v, .int .i64 i] w fun e w' => e = .returned noChunk ∧ Below w.heap.size w w' := by
  have B0 : Below w.heap.size w (w.alloc (cb 0 0 0 0 false false (.slice none 0 0))) := (Below.refl _ _).alloc (Nat.le_refl _) _
  have T0 := chAt_new w 0 0 0 0 false false (.slice none 0 0)
  have s0 : w.heap.size + 1 ≤ (w.alloc (cb 0 0 0 0 false false (.slice none 0 0))).heap.size := by simp
  have RD := headAt_no (intsAt_below h B0) hl i hi d
  go_enter Tryz.func82, Tryz.ntmps82
  go_wp2_with fail
  generalize (w.alloc (Obj.cells #[.int .i64 0, .int .i64 0, .int .i64 0, .int .i64 0, .bool false, .bool false, .slice none 0 0] 87)) = X at *
  refine RD.mono ?_
  rintro e w1 ⟨rfl, b1⟩
  have s1 := b1.size
  have T1 := chAt_alloc (chAt_below T0 b1) (hb 0 0 0 0 false false)
  have B1 := (B0.trans (b1.mono (by omega))).alloc (by omega) (hb 0 0 0 0 false false)
  obtain ⟨t0, t1, t2, t3, t4, t5, t6, tf⟩ := chAt_cells T1
  have f0 := tf 0; have f1 := tf 1; have f2 := tf 2; have f3 := tf 3; have f4 := tf 4; have f5 := tf 5; have f6 := tf 6
  have T2 : Hid _ := seven_set T1 0 0 0 0 false false (.slice none 0 0)
  have B2 : Hid _ := seven_below B1 (Nat.le_refl _) 0 0 0 0 false false (.slice none 0 0)
  clear b1 RD T0 B0 B1 tf T1
  go_wp2
  exact bodyPost_ret (v := noChunk) (res_chunk_one rfl rfl rfl T2) rfl ⟨rfl, B2⟩

/-- What chunkOf answers at a place of a row. -/
def chRes (a : Option Addr) (xs : List Int) (k : Nat) : Value :=
  if chunk xs k = 0 then noChunk else .tuple #[cv (uS (xs.getD k 0)) (uF (xs.getD k 0)) (uC (xs.getD k 0)) (uH (xs.getD k 0)) (uP (xs.getD k 0)) (uM (xs.getD k 0)) (piece a k (chunk xs k).toNat), .bool true]

set_option maxHeartbeats 1000000 in
theorem chunkOf_in {w : World} {a : Option Addr} {cap : Nat} {xs : List Int} (h : IntsAt w (.slice a xs.length cap) xs) (hl : xs.length ≤ 1048576) (ha : AllI xs) (k : Nat) (d : okAt xs k = true) :
    Calls Tryz.prog 82 #[.slice a xs.length cap, .int .i64 k] w fun e w' => e = .returned (chRes a xs k) ∧ Below w.heap.size w w' := by
  have h' := h
  obtain ⟨a', cap', e', hlc, hcm, hnil, hc⟩ := h
  injection e' with e1 e2 e3
  subst e1 e3
  have hk : k < xs.length := by
    simp only [okAt, Bool.and_eq_true] at d
    have := atOk_true d.2
    omega
  obtain ⟨b, off, rfl, hblk, hcc⟩ := hc (by omega)
  have hx := allI_at ha hk
  have BY := fun e => chunk_by (xs := xs) (k := k) d e
  have B0 : Below w.heap.size w (w.alloc (cb 0 0 0 0 false false (.slice none 0 0))) := (Below.refl _ _).alloc (Nat.le_refl _) _
  have T0 := chAt_new w 0 0 0 0 false false (.slice none 0 0)
  have s0 : w.heap.size + 1 ≤ (w.alloc (cb 0 0 0 0 false false (.slice none 0 0))).heap.size := by simp
  have RD := headAt_yes (intsAt_below h' B0) hl k d hx
  have SB : ∀ (W : World), Below w.heap.size w W → _ := fun W hW => sizeBy_any (intsAt_below h' hW) hl ha k (by omega) (uS (xs.getD k 0)) (uF (xs.getD k 0)) (uC (xs.getD k 0)) (uH (xs.getD k 0)) (uP (xs.getD k 0)) (uM (xs.getD k 0))
  have NI := sbOf_I ha k (uS (xs.getD k 0)) (uF (xs.getD k 0))
  have RES0 : Hid (chunk xs k = 0 → chRes (some ⟨b, off, none⟩) xs k = noChunk) := fun e => by unfold chRes; rw [if_pos e]
  have RES1 : Hid (chunk xs k ≠ 0 → chRes (some ⟨b, off, none⟩) xs k = .tuple #[cv (uS (xs.getD k 0)) (uF (xs.getD k 0)) (uC (xs.getD k 0)) (uH (xs.getD k 0)) (uP (xs.getD k 0)) (uM (xs.getD k 0)) (piece (some ⟨b, off, none⟩) k (chunk xs k).toNat), .bool true]) := fun e => by unfold chRes; rw [if_neg e]
  have N2 := sbOf_two xs k (uS (xs.getD k 0)) (uF (xs.getD k 0))
  have CH0 : (ok (xs.getD k 0) && !uM (xs.getD k 0)) = false → chunk xs k = 0 := fun e => by unfold chunk; rw [if_neg (by rw [e]; simp)]
  generalize chRes (some ⟨b, off, none⟩) xs k = R at *
  generalize ho : (ok (xs.getD k 0) && !uM (xs.getD k 0)) = o at *
  have HCY : Hid (∀ j, k + j < xs.length → w.cell? ⟨b, off + k + j, none⟩ = some (.int .i64 (xs.getD (k + j) 0))) := fun j hj => by rw [Nat.add_assoc]; exact hcc _ hj
  have HYI : Hid (∀ j, k + j < xs.length → I64 (xs.getD (k + j) 0)) := fun j hj => allI_at ha hj
  clear hc hcc hnil
  generalize sbOf xs k (uS (xs.getD k 0)) (uF (xs.getD k 0)) = n at *
  generalize uS (xs.getD k 0) = s at *
  generalize uF (xs.getD k 0) = f at *
  generalize uC (xs.getD k 0) = c at *
  generalize uH (xs.getD k 0) = g at *
  generalize uP (xs.getD k 0) = p at *
  generalize uM (xs.getD k 0) = m at *
  generalize hch : chunk xs k = ch at *
  have HBY : Hid _ := BY
  have HCH : Hid _ := CH0
  clear ho BY CH0 hch
  go_enter Tryz.func82, Tryz.ntmps82
  go_wp2_with fail
  generalize (w.alloc (Obj.cells #[.int .i64 0, .int .i64 0, .int .i64 0, .int .i64 0, .bool false, .bool false, .slice none 0 0] 87)) = X at *
  refine RD.mono ?_
  rintro e w1 ⟨rfl, b1⟩
  have s1 := b1.size
  have T1 := chAt_alloc (chAt_below T0 b1) (hb s f c g p m)
  have B1 := (B0.trans (b1.mono (by omega))).alloc (by omega) (hb s f c g p m)
  have N1 := headAt_new w1 s f c g p m
  have S1 : w1.heap.size + 1 ≤ (w1.alloc (hb s f c g p m)).heap.size := by simp
  clear b1 RD T0 B0
  cases o
  · obtain ⟨t0, t1, t2, t3, t4, t5, t6, tf⟩ := chAt_cells T1
    have f0 := tf 0; have f1 := tf 1; have f2 := tf 2; have f3 := tf 3; have f4 := tf 4; have f5 := tf 5; have f6 := tf 6
    have T2 : Hid _ := seven_set T1 0 0 0 0 false false (.slice none 0 0)
    have B2 : Hid _ := seven_below B1 (Nat.le_refl _) 0 0 0 0 false false (.slice none 0 0)
    have ER : Hid _ := RES0.out (HCH.out rfl)
    clear B1 tf T1 HCH HBY RES0 RES1
    go_wp2
    refine bodyPost_ret (v := noChunk) (res_chunk_one rfl rfl rfl T2) rfl ⟨?_, B2⟩
    rw [ER.out]
  · have HBY2 : Hid _ := HBY.out rfl
    clear HBY
    obtain ⟨n0, n1, n2, n3, n4, n5, nf⟩ := headAt_cells N1
    go_wp2_with fail
    generalize hY : w1.alloc (Obj.cells #[.int .i64 s, .int .i64 f, .int .i64 c, .int .i64 g, .bool p, .bool m] 69) = Y at *
    clear hY n0 n1 n2 n3 n4 n5 nf
    refine (SB _ B1).mono ?_
    clear SB
    rintro e w2 ⟨rfl, b2⟩
    have s2 := b2.size
    have T2 := chAt_below (show ChAt Y w.heap.size 0 0 0 0 false false (.slice none 0 0) from T1) b2
    have N2' := headAt_below (show HeadAt Y w1.heap.size s f c g p m from N1) b2
    have B2 := B1.trans (b2.mono (by omega))
    clear b2 B1 T1 N1
    go_wp2_with fail
    cases dc : cutOk xs.length k n
    · have E0 : ch = 0 := by rw [HBY2.out, dc]; simp
      have ER : Hid _ := RES0.out E0
      clear HBY2 HCH RES0 RES1 E0
      refine (cut_no hlc hcm k n ⟨by omega, by omega⟩ NI dc).mono ?_
      rintro e w3 ⟨rfl, hw3⟩
      rw [hw3]
      clear hw3 w3
      obtain ⟨t0, t1, t2, t3, t4, t5, t6, tf⟩ := chAt_cells T2
      have f0 := tf 0; have f1 := tf 1; have f2 := tf 2; have f3 := tf 3; have f4 := tf 4; have f5 := tf 5; have f6 := tf 6
      have T3 : Hid _ := seven_set T2 0 0 0 0 false false (.slice none 0 0)
      have B3 : Hid _ := seven_below B2 (Nat.le_refl _) 0 0 0 0 false false (.slice none 0 0)
      clear B2 tf T2
      go_wp2
      refine bodyPost_ret (v := noChunk) (res_chunk_one rfl rfl rfl T3) rfl ⟨?_, B3⟩
      rw [ER.out]
    · obtain ⟨c1, c2, c3⟩ := cutOk_true dc
      obtain ⟨N, rfl⟩ := Int.eq_ofNat_of_zero_le c2
      refine (cut_yes hlc hcm k N (by omega)).mono ?_
      rintro e w3 ⟨rfl, hw3⟩
      rw [hw3]
      clear hw3 w3
      by_cases hN : N = 0
      · subst hN
        have E0 : ch = 0 := by rw [HBY2.out]; simp
        have ER : Hid _ := RES0.out E0
        clear HBY2 HCH RES0 RES1 E0
        rw [piece_none]
        obtain ⟨t0, t1, t2, t3, t4, t5, t6, tf⟩ := chAt_cells T2
        have f0 := tf 0; have f1 := tf 1; have f2 := tf 2; have f3 := tf 3; have f4 := tf 4; have f5 := tf 5; have f6 := tf 6
        have T3 : Hid _ := seven_set T2 0 0 0 0 false false (.slice none 0 0)
        have B3 : Hid _ := seven_below B2 (Nat.le_refl _) 0 0 0 0 false false (.slice none 0 0)
        clear B2 tf T2
        go_wp2
        refine bodyPost_ret (v := noChunk) (res_chunk_one rfl rfl rfl T3) rfl ⟨?_, B3⟩
        rw [ER.out]
      · have hN2 : 2 ≤ N := by omega
        rw [piece_at b off k N (by omega)]
        obtain ⟨n0, n1, n2, n3, n4, n5, nf⟩ := headAt_cells N2'
        clear nf
        have hU : ∀ W : World, Below w.heap.size w W → W.cell? ⟨b, off + k + 1, none⟩ = some (.int .i64 (xs.getD (k + 1) 0)) := fun W hW => (hW.cell (p := ⟨b, off + k + 1, none⟩) hblk).trans (HCY.out 1 (by omega))
        have hyI := HYI.out 1 (by omega)
        have RES2 : Hid (ch = (N : Int) → R = .tuple #[cv s f c g p m (.slice (some ⟨b, off + k, none⟩) N N), .bool true]) := fun e => by
          rw [RES1.out (by omega), e, Int.toNat_natCast, piece_at b off k N (by omega)]
        generalize xs.getD (k + 1) 0 = y at *
        have HU : Hid _ := hU
        clear hU RES1 HCY HYI
        go_wp2_with fail
        refine (isNote_any s f c g p m _ _).mono ?_
        rintro e w4 ⟨rfl, hw4⟩
        have T4 := chAt_alloc (chAt_alloc T2 (cb s f c g p m (.slice (some ⟨b, off + k, none⟩) N N))) (cb s f c g p m (.slice (some ⟨b, off + k, none⟩) N N))
        have M4 := chAt_alloc (chAt_new w2 s f c g p m (.slice (some ⟨b, off + k, none⟩) N N)) (cb s f c g p m (.slice (some ⟨b, off + k, none⟩) N N))
        have B4 := (B2.alloc (by omega) (cb s f c g p m (.slice (some ⟨b, off + k, none⟩) N N))).alloc (by simp; omega) (cb s f c g p m (.slice (some ⟨b, off + k, none⟩) N N))
        rw [← hw4] at T4 M4 B4
        clear hw4 T2 N2' B2 n0 n1 n2 n3 n4 n5
        have cy := HU.out _ B4
        clear HU
        obtain ⟨t0, t1, t2, t3, t4, t5, t6, tf⟩ := chAt_cells T4
        have f0 := tf 0; have f1 := tf 1; have f2 := tf 2; have f3 := tf 3; have f4 := tf 4; have f5 := tf 5; have f6 := tf 6
        obtain ⟨m0, m1, m2, m3, m4, m5, m6, mf⟩ := chAt_cells M4
        have T5 : Hid _ := seven_set T4 0 0 0 0 false false (.slice none 0 0)
        have B5 : Hid _ := seven_below B4 (Nat.le_refl _) 0 0 0 0 false false (.slice none 0 0)
        have T6 : Hid _ := seven_set T4 s f c g p m (.slice (some ⟨b, off + k, none⟩) N N)
        have B6 : Hid _ := seven_below B4 (Nat.le_refl _) s f c g p m (.slice (some ⟨b, off + k, none⟩) N N)
        clear tf mf T4 M4 B4
        by_cases h7 : f = 7
        · subst h7
          cases dA : isA y
          · have ER : Hid _ := RES0.out (show ch = 0 by rw [HBY2.out, if_neg]; rintro ⟨_, _, h3⟩; exact absurd (h3 rfl) (by simp [dA]))
            clear RES0 RES2 HBY2 HCH T6 B6
            go_wp2_with (go_at_call 113; refine (isAddr_any _ _ hyI.1 hyI.2).mono ?_; rintro e w5 ⟨rfl, rfl⟩)
            refine bodyPost_ret (v := noChunk) (res_chunk_one rfl rfl rfl T5) rfl ⟨?_, B5⟩
            rw [ER.out]
          · have ER : Hid _ := RES2.out (show ch = (N : Int) by rw [HBY2.out, if_pos]; exact ⟨dc, by omega, fun _ => dA⟩)
            clear RES0 RES2 HBY2 HCH T5 B5
            go_wp2_with (go_at_call 113; refine (isAddr_any _ _ hyI.1 hyI.2).mono ?_; rintro e w5 ⟨rfl, rfl⟩)
            refine bodyPost_ret (v := .tuple #[cv s 7 c g p m (.slice (some ⟨b, off + k, none⟩) N N), .bool true]) (res_chunk_one rfl rfl rfl T6) rfl ⟨?_, B6⟩
            rw [ER.out]
        · have h7' : (f == 7) = false := by simp [h7]
          have ER : Hid _ := RES2.out (show ch = (N : Int) by rw [HBY2.out, if_pos]; exact ⟨dc, by omega, fun h => absurd h h7⟩)
          clear RES0 RES2 HBY2 HCH T5 B5
          go_wp2
          refine bodyPost_ret (v := .tuple #[cv s f c g p m (.slice (some ⟨b, off + k, none⟩) N N), .bool true]) (res_chunk_one rfl rfl rfl T6) rfl ⟨?_, B6⟩
          rw [ER.out]

theorem chunkAt_in {xs : List Int} {k : Nat} (d : okAt xs k = true) : chunkAt xs k = chunk xs k := by unfold chunkAt; rw [if_pos d]; rfl
theorem chunk_nat (xs : List Int) (k : Nat) : ((chunk xs k).toNat : Int) = chunk xs k := Int.toNat_of_nonneg (chunk_le xs k).1

theorem implChunkAt (w : World) (v : Value) (xs : List Int) (i : Int) (h : IntsAt w v xs) (hl : xs.length ≤ 1048576) (ha : AllI xs) (hi : I64 i) :
    Calls Tryz.prog 56 #[v, .int .i64 i] w fun e w' => e = .returned (.int .i64 (chunkAt xs i)) ∧ Below w.heap.size w w' := by
  cases d : okAt xs i
  · have e : chunkAt xs i = 0 := by unfold chunkAt; rw [d]; rfl
    rw [e]
    have C := chunkOf_out h hl i hi d
    clear e
    go_enter Tryz.func56, Tryz.ntmps56
    go_wp2_with fail
    refine C.mono ?_
    rintro e w1 ⟨rfl, b1⟩
    have B2 : Hid _ := (b1.alloc b1.size (cb 0 0 0 0 false false (.slice none 0 0))).alloc (by simp; have := b1.size; omega) (cb 0 0 0 0 false false (.slice none 0 0))
    clear b1 C
    go_wp2_with (go_at_call 83; refine (size_any _ _ _ _ _ _ _ _ _ _).mono ?_; rintro e w2 ⟨rfl, rfl⟩)
    go_ret
    exact ⟨rfl, B2⟩
  · obtain ⟨k, rfl⟩ : ∃ k : Nat, i = k := by
      simp only [okAt, Bool.and_eq_true] at d
      exact Int.eq_ofNat_of_zero_le (atOk_true d.2).1
    rw [chunkAt_in d]
    have h' := h
    obtain ⟨a, cap, rfl, _, _, _, _⟩ := h
    have C := chunkOf_in h' hl ha k d
    unfold chRes at C
    have cn := chunk_nat xs k
    by_cases e0 : chunk xs k = 0
    · rw [if_pos e0] at C
      rw [e0]
      clear cn e0
      go_enter Tryz.func56, Tryz.ntmps56
      go_wp2_with fail
      refine C.mono ?_
      rintro e w1 ⟨rfl, b1⟩
      have B2 : Hid _ := (b1.alloc b1.size (cb 0 0 0 0 false false (.slice none 0 0))).alloc (by simp; have := b1.size; omega) (cb 0 0 0 0 false false (.slice none 0 0))
      clear b1 C
      go_wp2_with (go_at_call 83; refine (size_any _ _ _ _ _ _ _ _ _ _).mono ?_; rintro e w2 ⟨rfl, rfl⟩)
      go_ret
      exact ⟨rfl, B2⟩
    · rw [if_neg e0] at C
      rw [← cn]
      clear cn
      generalize (chunk xs k).toNat = N at *
      unfold piece at C
      generalize uS (xs.getD k 0) = s at *
      generalize uF (xs.getD k 0) = f at *
      generalize uC (xs.getD k 0) = c at *
      generalize uH (xs.getD k 0) = g at *
      generalize uP (xs.getD k 0) = p at *
      generalize uM (xs.getD k 0) = m at *
      generalize (if N = 0 then a else Option.map (fun x => x.add k) a) = ad at *
      clear e0
      go_enter Tryz.func56, Tryz.ntmps56
      go_wp2_with fail
      refine C.mono ?_
      rintro e w1 ⟨rfl, b1⟩
      have B2 : Hid _ := (b1.alloc b1.size (cb s f c g p m (.slice ad N N))).alloc (by simp; have := b1.size; omega) (cb s f c g p m (.slice ad N N))
      clear b1 C
      go_wp2_with (go_at_call 83; refine (size_any _ _ _ _ _ _ _ _ _ _).mono ?_; rintro e w2 ⟨rfl, rfl⟩)
      go_ret
      exact ⟨rfl, B2⟩
end Go.Proofs.YtmhbdmmpmagbkaaGreat.walks
namespace Go.Proofs.YtmhbdmmpmagbkaaGreat.rows
open Go.RowKit
set_option maxRecDepth 100000

theorem infoSize : (Tryz.prog.info? 2).map (·.size) = some 1 := by kernel_rfl
theorem splice_all {L cs : List Value} (h : cs.length = L.length) : splice L 0 cs = cs := by simp [splice, h]

theorem src_of {w : World} {a : Option Addr} {cap : Nat} {xs : List Int} (h : IntsAt w (.slice a xs.length cap) xs) (hp : 0 < xs.length) : ∃ ad, a = some ad ∧ ∀ j v, (cellsOf xs)[j]? = some v → w.cell? (ad.add j) = some v := by
  have h' := h
  obtain ⟨a', cap', e, _, _, _, hc⟩ := h
  injection e with e1 e2 e3
  subst e1
  obtain ⟨b, off, rfl, _⟩ := hc hp
  exact ⟨_, rfl, ints_news h'⟩

theorem own_nil (w : World) (base : Nat) : Own w base (.slice none 0 0) [] := World.ownsRow_nil _ _ _ _

theorem copied_any {w : World} {v : Value} {xs : List Int} (h : IntsAt w v xs) (hl : xs.length ≤ 1048576) :
    Calls Tryz.prog 99 #[v] w fun e w' => e = .returned (.slice (some ⟨w.heap.size, 0, none⟩) xs.length xs.length) ∧ Full w' w.heap.size xs ∧ Below w.heap.size w w' := by
  have h' := h
  obtain ⟨a, cap, rfl, hlc, hcm, _, hc⟩ := h
  obtain ⟨i0, hi, hz0, hz1, hz2⟩ := info_parts info
  clear hc
  go_enter Tryz.func99, Tryz.ntmps99
  go_upto_region 2 with (at_make; refine wpList_make_full _ rfl _ _ 22 rfl w.heap.size 2 i0 (.int .i64 0) 1 Tryz.underlying22 hi hz0 hz1 _ _ _ _ xs.length rfl rfl rfl rfl (by rw [hz2]; omega) (by unfold maxLen; omega) (Nat.le_refl _) ?_; intro w1 hown hgrow)
  have F0 : Full w1 w.heap.size (List.replicate xs.length 0) := own_full hown (by simp [cellsOf, toList_madeCells_one, Value.cells])
  have B0 : Below w.heap.size w w1 := (Below.refl _ _).grown hgrow (Nat.le_refl _) (fun k e => by cases e)
  have SRC := src_of (intsAt_below h' B0)
  have hn : (cellsOf xs).length = Nat.min xs.length xs.length := by rw [show Nat.min xs.length xs.length = xs.length from Nat.min_self _]; simp
  have hfit : 0 + (cellsOf xs).length ≤ (cellsOf (List.replicate xs.length 0)).length := by simp
  have hp0 : 0 < (cellsOf xs).length → some (⟨w.heap.size, 0, none⟩ : Addr) = some ⟨w.heap.size, 0, none⟩ ∧ ∃ ad, a = some ad ∧ ∀ j v, (cellsOf xs)[j]? = some v → w1.cell? (ad.add j) = some v := fun hp => ⟨rfl, SRC (by simpa using hp)⟩
  have HN : Hid _ := hn
  have HF : Hid _ := hfit
  have HP : Hid _ := hp0
  have HF0 : Hid _ := F0
  clear hown hgrow hn hfit hp0 F0 SRC
  go_wp2_with (refine wpList_copy_splice rfl (.tmp 7) (.tmp 8) 22 22 rfl 2 Tryz.underlying22 infoSize (some ⟨w.heap.size, 0, none⟩) a xs.length xs.length xs.length cap rfl rfl w.heap.size 0 (cellsOf (List.replicate xs.length 0)) 2 HF0.out (cellsOf xs) HN.out HP.out HF.out (ints_oneCell _ _) w.heap.size w B0 (Nat.le_refl _) ?_; intro w2 hF hB)
  have F2 : Full w2 w.heap.size xs := by
    have := hF.out
    rw [splice_all (by simp)] at this
    exact this
  go_ret
  exact ⟨rfl, F2, hB⟩
end Go.Proofs.YtmhbdmmpmagbkaaGreat.rows
namespace Go.Proofs.YtmhbdmmpmagbkaaGreat.walks
open Go.RowKit rows heads words
set_option maxRecDepth 100000

theorem isFree_any (s f c h : Int) (p m : Bool) (u : Value) (w : World) :
    Calls Tryz.prog 125 #[cv s f c h p m u] w fun e w' => e = .returned (.bool (f == 6)) ∧ w' = w.alloc (cb s f c h p m u) := by
  go_enter Tryz.func125, Tryz.ntmps125
  go_wp2
  go_ret
  exact ⟨rfl, rfl⟩

theorem slots_any (s f c h : Int) (p m : Bool) (b o N n : Nat) (w : World) (hN : N ≤ 1048576) (hn : (if f = 7 then 1 else s) = (n : Int)) (hle : 1 + n ≤ N) :
    Calls Tryz.prog 98 #[cv s f c h p m (.slice (some ⟨b, o, none⟩) N N)] w fun e w' => e = .returned (piece (some ⟨b, o, none⟩) 1 n) ∧ Below w.heap.size w w' := by
  have B0 : Below w.heap.size w ((w.alloc (cb s f c h p m (.slice (some ⟨b, o, none⟩) N N))).alloc (cb s f c h p m (.slice (some ⟨b, o, none⟩) N N))) := ((Below.refl _ w).alloc (Nat.le_refl _) _).alloc (by simp) _
  have HB : Hid _ := B0
  clear B0
  by_cases h7 : f = 7
  · subst h7
    have e1 : n = 1 := by simp at hn; omega
    subst e1
    go_enter Tryz.func98, Tryz.ntmps98
    go_wp2_with (go_at_call 112; refine (isNote_any _ _ _ _ _ _ _ _).mono ?_; rintro e w1 ⟨rfl, rfl⟩)
    all_goals go_ret
    all_goals exact ⟨by simp [piece, Addr.add], HB⟩
  · have h7' : (f == 7) = false := by simpa using h7
    rw [if_neg h7] at hn
    subst hn
    go_enter Tryz.func98, Tryz.ntmps98
    go_wp2_with (go_at_call 112; refine (isNote_any _ _ _ _ _ _ _ _).mono ?_; rintro e w1 ⟨rfl, rfl⟩)
    · have e0 : n = 0 := by omega
      subst e0
      go_ret
      exact ⟨by simp [piece], HB⟩
    · go_ret
      exact ⟨by simp [piece, Addr.add, *], HB⟩

/-- A piece holds its numbers. -/
theorem piece_is {w : World} {a : Option Addr} {cap : Nat} {xs : List Int} (h : IntsAt w (.slice a xs.length cap) xs) (hl : xs.length ≤ 1048576) (k n : Nat) (hk : k + n ≤ xs.length) : IntsAt w (piece a k n) ((xs.drop k).take n) := by
  obtain ⟨a', cap', e, hlc, hcm, hnil, hc⟩ := h
  injection e with e1 e2 e3
  subst e1 e3
  have el : ((xs.drop k).take n).length = n := by simp; omega
  by_cases h0 : n = 0
  · subst h0
    rw [piece_none]
    exact ⟨a, 0, by simp, by simp, by decide, fun _ => rfl, fun h => by simp at h⟩
  · obtain ⟨b, off, rfl, hb, hcc⟩ := hc (by omega)
    rw [piece_at b off k n (by omega)]
    refine ⟨_, n, by rw [el], by omega, by unfold maxLen; omega, fun h => by simp at h, fun _ => ⟨b, off + k, rfl, hb, fun i hi => ?_⟩⟩
    rw [el] at hi
    have := hcc (k + i) (by omega)
    rw [Nat.add_assoc, this]
    simp [List.getD_eq_getElem?_getD, hi]

theorem chAt_drew {w : World} {b : Nat} {s f c h : Int} {p m : Bool} {u : Value} (hh : ChAt w b s f c h p m u) : ChAt w.drew b s f c h p m u := hh

end Go.Proofs.YtmhbdmmpmagbkaaGreat.walks
namespace Go.Proofs.YtmhbdmmpmagbkaaGreat.walks
open Go.RowKit rows heads words
set_option maxRecDepth 100000

abbrev fcv (k n : Int) : Value := .agg #[.int .i64 k, .int .i64 n]
theorem zeroI : ∀ w, (zeroValue 2).run Tryz.prog w = .ok (.int .i64 0) w := fun w => by go_simp
theorem splice_fill {xs : List Int} {k n : Nat} : splice (cellsOf xs) k (List.replicate n (.int .i64 0)) = cellsOf (fill xs k n 0) := by
  simp [splice, cellsOf, fill, List.map_take, List.map_drop]
/-- 'clear' on a piece of a block of numbers, within a region that draws its order. -/
theorem step_clear_ints {w : World} {ops : Array Oper} {o : Oper} {a : Act} {K : Act → World → Prop} {Q : Exit → Act → World → Prop} {E : Prop} (hgd : o.guard = none) (s : Operand)
    (ho : o.op = .call { callee := .builtin .clear, args := #[s], argTypes := #[22] }) {g k n c : Nat} {xs : List Int} (hs : a.eval s = .slice (some ⟨g, k, none⟩) n c) (hn : 0 < n) (hF : Full w g xs) (hfit : k + n ≤ xs.length)
    (h : ∀ w', Hid (Full w' g (fill xs k n 0)) → Hid (w.grownBy w' (some g)) → K (a.put o.dst (.tuple #[])) w') :
    if Region.wanted o (yielded ops a.tmps) = true then Oper.wp Tryz.prog o a w K Q else E := by
  have hw : Region.wanted o (yielded ops a.tmps) = true := by simp [Region.wanted, hgd]
  rw [if_pos hw]
  have hz : (Builtin.zeroCells (Value.int .i64 0).cells n).toList = List.replicate n (.int .i64 0) := by
    simp [Builtin.zeroCells, Value.cells]
    apply List.ext_getElem
    · simp
    · intro i h1 h2
      simp [Nat.mod_one]
  obtain ⟨w', hrun, r1, r2, r3⟩ := copyk.run_clear_k (P := Tryz.prog) w 22 2 o.type (.int .i64 0) 1 Tryz.underlying22 zeroI (some ⟨g, k, none⟩) n c g k (cellsOf xs) 2 hF (fun _ => rfl) (by rw [hz]; simp) (by rw [hz]; intro v hv; rw [List.eq_of_mem_replicate hv]; rfl) (by simp; omega)
  rw [if_neg (by omega), hz, splice_fill] at r1
  have b0 := r3 (Below.refl 0 w) (Nat.zero_le _)
  unfold Oper.wp
  simp [execOp, ho, resolve, invoke, builtin, hs, hrun, Result.andThen]
  exact h w' r1 ⟨b0.os, b0.tape, b0.output, b0.size, fun j _ hj => r2 j (fun e => hj (by rw [e]))⟩

theorem grown_two {a b c : World} {r : Option Nat} (h : a.grownBy b r) (k : b.grownBy c r) : a.grownBy c r :=
  ⟨k.os.trans h.os, k.tape.trans h.tape, k.output.trans h.output, Nat.le_trans h.size k.size, fun j hj hn => (k.block j (Nat.lt_of_lt_of_le hj h.size) hn).trans (h.block j hj hn)⟩
theorem grown_bel' {w w' : World} (hb : Below w.heap.size w w') (r : Option Nat) : w.grownBy w' r := ⟨hb.os, hb.tape, hb.output, hb.size, fun k hk _ => hb.block k hk⟩
theorem full_grown {w w' : World} {g b : Nat} {xs : List Int} (h : Full w b xs) (hg : w.grownBy w' (some g)) (hne : b ≠ g) : Full w' b xs := (hg.block b (lt_of_block h) (fun e => hne (by injection e))).trans h

theorem full_bel {w w' : World} {b : Nat} {xs : List Int} (h : Full w b xs) (hb : Below w.heap.size w w') : Full w' b xs := (hb.block b (lt_of_block h)).trans h
theorem grown_setG {w w' : World} {g : Nat} (h : w.grownBy w' (some g)) (k : Nat) (u : Value) : w.grownBy (w'.setCell ⟨g, k, none⟩ u) (some g) :=
  ⟨h.os, h.tape, h.output, by simpa using h.size, fun k' hk hne => (Below.heap_setCell w' _ u k' (fun e => hne (by simp [e]))).trans (h.block k' hk hne)⟩

end Go.Proofs.YtmhbdmmpmagbkaaGreat.walks
