/-
  A heap of the laws made a heap of the program; its size; two that are the same.
  Made from the template HeapT.
-/
import Derived.Test.YtemlagfaaibenaaGreatM5
namespace Go.Proofs.YtemlagfaaibenaaGreat.hp
open Go.RowKit rows heads words walks
set_option maxRecDepth 100000
set_option linter.unusedVariables false

theorem hp_parts {H : Hp} (h : hpSize H ≤ 1048576) : H.row.length ≤ 1048576 ∧ H.roots.length ≤ 1048576 ∧ H.mourned.length ≤ 1048576 ∧ H.seen.length ≤ 1048576 := by
  unfold hpSize at h
  omega
theorem full_ch {S : List Nat} {w w' : World} {b : Nat} {xs : List Int} (h : Full w b xs) (hc : Ch S w w') (hb : b ∉ S) : Full w' b xs := (hc.block b (lt_of_block h) hb).trans h
theorem full_belo {w w' : World} {b : Nat} {xs : List Int} (h : Full w b xs) (hb : Below w.heap.size w w') : Full w' b xs := (hb.block b (lt_of_block h)).trans h

set_option maxHeartbeats 8000000 in
theorem toHeap_any {w : World} {vr vo vm vs : Value} {H : Hp} (h : HpAt w vr vo vm vs H) (hs : hpSize H ≤ 1048576) :
    Calls Tryz.prog 9 #[hpv H vr vo vm vs] w fun e w' => ∃ (vr' vo' vm' vs' : Value), e = .returned (hpv H vr' vo' vm' vs') ∧ OwnH w' w.heap.size vr' vo' vm' vs' H ∧ Below w.heap.size w w' := by
  obtain ⟨l1, l2, l3, l4⟩ := hp_parts hs
  obtain ⟨a1, c1, a2, c2, a3, c3, a4, c4, e1, e2, e3, e4⟩ := hpAt_slices h
  subst e1 e2 e3 e4
  obtain ⟨X, hX⟩ : ∃ X, X = ((w.alloc (.cells #[.int .i64 H.half, .int .i64 H.old, .slice a1 H.row.length c1, .int .i64 H.side, .int .i64 H.top, .slice a2 H.roots.length c2, .slice a3 H.mourned.length c3, .slice a4 H.seen.length c4, .int .i64 H.seed] 24)).alloc (.cells #[.int .i64 0, .int .i64 0, .slice none 0 0, .int .i64 0, .int .i64 0, .slice none 0 0, .slice none 0 0, .slice none 0 0, .int .i64 0] 27)).alloc (.cells #[.int .i64 H.half, .int .i64 H.old, .slice none 0 0, .int .i64 0, .int .i64 0, .slice none 0 0, .slice none 0 0, .slice none 0 0, .int .i64 0] 27) := ⟨_, rfl⟩
  have HX : Hid _ := hX
  have BX : Below w.heap.size w X := by
    rw [hX]
    exact (((Below.refl _ w).alloc (Nat.le_refl _) _).alloc (by simp) _).alloc (by simp; omega) _
  have sX : X.heap.size = w.heap.size + 3 := by rw [hX]; simp
  have T1 : Nine X w.heap.size 24 (.int .i64 H.half) (.int .i64 H.old) (.slice a1 H.row.length c1) (.int .i64 H.side) (.int .i64 H.top) (.slice a2 H.roots.length c2) (.slice a3 H.mourned.length c3) (.slice a4 H.seen.length c4) (.int .i64 H.seed) := by
    rw [hX]
    exact nine_below (nine_below (nine_mk w _ _ _ _ _ _ _ _ _ _) ((Below.refl _ _).alloc (Nat.le_refl _) _)) ((Below.refl _ _).alloc (Nat.le_refl _) _)
  have T2 : Nine X (w.heap.size + 1) 27 (.int .i64 0) (.int .i64 0) (.slice none 0 0) (.int .i64 0) (.int .i64 0) (.slice none 0 0) (.slice none 0 0) (.slice none 0 0) (.int .i64 0) := by
    rw [hX]
    have := nine_mk (w.alloc (.cells #[.int .i64 H.half, .int .i64 H.old, .slice a1 H.row.length c1, .int .i64 H.side, .int .i64 H.top, .slice a2 H.roots.length c2, .slice a3 H.mourned.length c3, .slice a4 H.seen.length c4, .int .i64 H.seed] 24)) 27 (.int .i64 0) (.int .i64 0) (.slice none 0 0) (.int .i64 0) (.int .i64 0) (.slice none 0 0) (.slice none 0 0) (.slice none 0 0) (.int .i64 0)
    have := nine_below this ((Below.refl _ _).alloc (Nat.le_refl _) (.cells #[.int .i64 H.half, .int .i64 H.old, .slice none 0 0, .int .i64 0, .int .i64 0, .slice none 0 0, .slice none 0 0, .slice none 0 0, .int .i64 0] 27))
    simpa using this
  have T3 : Nine X (w.heap.size + 1 + 1) 27 (.int .i64 H.half) (.int .i64 H.old) (.slice none 0 0) (.int .i64 0) (.int .i64 0) (.slice none 0 0) (.slice none 0 0) (.slice none 0 0) (.int .i64 0) := by
    rw [hX]
    have := nine_mk ((w.alloc (.cells #[.int .i64 H.half, .int .i64 H.old, .slice a1 H.row.length c1, .int .i64 H.side, .int .i64 H.top, .slice a2 H.roots.length c2, .slice a3 H.mourned.length c3, .slice a4 H.seen.length c4, .int .i64 H.seed] 24)).alloc (.cells #[.int .i64 0, .int .i64 0, .slice none 0 0, .int .i64 0, .int .i64 0, .slice none 0 0, .slice none 0 0, .slice none 0 0, .int .i64 0] 27)) 27 (.int .i64 H.half) (.int .i64 H.old) (.slice none 0 0) (.int .i64 0) (.int .i64 0) (.slice none 0 0) (.slice none 0 0) (.slice none 0 0) (.int .i64 0)
    simpa using this
  have TI := toInt64S_any (intsAt_below h.1 BX) l1
  have HA : Hid _ := h
  have g2 : w.heap.size ≤ w.heap.size + 1 := by omega
  have g3 : w.heap.size ≤ w.heap.size + 1 + 1 := by omega
  have n13 : w.heap.size ∉ [w.heap.size + 1 + 1] := by simp; omega
  have n23 : w.heap.size + 1 ∉ [w.heap.size + 1 + 1] := by simp
  have m13 : ¬ w.heap.size = w.heap.size + 1 + 1 := by omega
  have sX3 : w.heap.size + 1 + 1 < X.heap.size := by omega
  have sX1 : w.heap.size ≤ X.heap.size := by omega
  clear hX h sX
  go_enter Tryz.func9, Tryz.ntmps9
  go_wp2_with fail
  rw [← HX.out]
  generalize hb3 : w.heap.size + 1 + 1 = B3 at *
  generalize hb2 : w.heap.size + 1 = B2 at *
  refine TI.mono ?_
  rintro e w2 ⟨rfl, F1, b2⟩
  clear TI HX
  have s2 := lt_of_block F1
  have U1 := nine_below T1 b2
  have U2 := nine_below T2 b2
  have U3 := nine_below T3 b2
  have BW := BX.trans (b2.mono sX1)
  clear T1 T2 T3 BX b2
  generalize hQ1 : X.heap.size = q1 at *
  have V3 := nine_set4 (nine_set3 (nine_set2 U3 (.slice (some ⟨q1, 0, none⟩) H.row.length H.row.length)) (.int .i64 H.side)) (.int .i64 H.top)
  have C3 := ((one_ch w2 B3 2 (.slice (some ⟨q1, 0, none⟩) H.row.length H.row.length)).trans (one_ch _ B3 3 (.int .i64 H.side))).trans (one_ch _ B3 4 (.int .i64 H.top))
  have V1 := nine_ch U1 C3 n13
  have V2 := nine_ch U2 C3 n23
  have F1' := full_ch F1 C3 (by simp; omega)
  have BW' := ((BW.setCell (p := ⟨B3, 2, none⟩) g3 (.slice (some ⟨q1, 0, none⟩) H.row.length H.row.length)).setCell (p := ⟨B3, 3, none⟩) g3 (.int .i64 H.side)).setCell (p := ⟨B3, 4, none⟩) g3 (.int .i64 H.top)
  have sY : (((w2.setCell ⟨B3, 2, none⟩ (.slice (some ⟨q1, 0, none⟩) H.row.length H.row.length)).setCell ⟨B3, 3, none⟩ (.int .i64 H.side)).setCell ⟨B3, 4, none⟩ (.int .i64 H.top)).heap.size = w2.heap.size := by simp
  have TI := toInt64S_any (intsAt_below HA.out.2.1 BW') l2
  obtain ⟨⟨k0, k1, k2, k3, k4⟩, ⟨k5, k6, k7, k8⟩, _⟩ := nine_cells U1
  obtain ⟨⟨j0, j1, j2, j3, j4⟩, ⟨j5, j6, j7, j8⟩, jf⟩ := nine_cells U3
  have f2 := jf 2
  have f3 := jf 3
  have f4 := jf 4
  have HV1 : Hid _ := V1
  have HV2 : Hid _ := V2
  have HV3 : Hid _ := V3
  have HF1 : Hid _ := F1'
  have HB : Hid _ := BW'
  clear U1 U2 U3 V1 V2 V3 F1 F1' C3 BW BW' jf
  go_wp2_with fail
  generalize hY : (((w2.setCell ⟨B3, 2, none⟩ (.slice (some ⟨q1, 0, none⟩) H.row.length H.row.length)).setCell ⟨B3, 3, none⟩ (.int .i64 H.side)).setCell ⟨B3, 4, none⟩ (.int .i64 H.top)) = Y at *
  have sY1 : w2.heap.size ≤ Y.heap.size := by omega
  clear sY hY k0 k1 k2 k3 k4 k5 k6 k7 k8 j0 j1 j2 j3 j4 j5 j6 j7 j8 f2 f3 f4
  refine TI.mono ?_
  rintro e w3 ⟨rfl, F2, b3⟩
  clear TI
  have s3 := lt_of_block F2
  have U1 := nine_below HV1.out b3
  have U2 := nine_below HV2.out b3
  have U3 := nine_below HV3.out b3
  have G1 := full_belo HF1.out b3
  have BW := HB.out.trans (b3.mono HB.out.size)
  clear HV1 HV2 HV3 HF1 HB b3
  generalize hQ2 : Y.heap.size = q2 at *
  have V3 := nine_set5 U3 (.slice (some ⟨q2, 0, none⟩) H.roots.length H.roots.length)
  have C3 := one_ch w3 B3 5 (.slice (some ⟨q2, 0, none⟩) H.roots.length H.roots.length)
  have V1 := nine_ch U1 C3 n13
  have V2 := nine_ch U2 C3 n23
  have F1' := full_ch G1 C3 (by simp; omega)
  have F2' := full_ch F2 C3 (by simp; omega)
  have BW' := BW.setCell (p := ⟨B3, 5, none⟩) g3 (.slice (some ⟨q2, 0, none⟩) H.roots.length H.roots.length)
  have sZ : (w3.setCell ⟨B3, 5, none⟩ (.slice (some ⟨q2, 0, none⟩) H.roots.length H.roots.length)).heap.size = w3.heap.size := by simp
  have TI := toInt64S_any (intsAt_below HA.out.2.2.1 BW') l3
  obtain ⟨⟨k0, k1, k2, k3, k4⟩, ⟨k5, k6, k7, k8⟩, _⟩ := nine_cells U1
  obtain ⟨⟨j0, j1, j2, j3, j4⟩, ⟨j5, j6, j7, j8⟩, jf⟩ := nine_cells U3
  have f5 := jf 5
  have HV1 : Hid _ := V1
  have HV2 : Hid _ := V2
  have HV3 : Hid _ := V3
  have HF1 : Hid _ := F1'
  have HF2 : Hid _ := F2'
  have HB : Hid _ := BW'
  clear U1 U2 U3 V1 V2 V3 G1 F1' F2 F2' C3 BW BW' jf
  go_wp2_with fail
  generalize hZ : (w3.setCell ⟨B3, 5, none⟩ (.slice (some ⟨q2, 0, none⟩) H.roots.length H.roots.length)) = Z at *
  have sZ1 : w3.heap.size ≤ Z.heap.size := by omega
  clear sZ hZ k0 k1 k2 k3 k4 k5 k6 k7 k8 j0 j1 j2 j3 j4 j5 j6 j7 j8 f5
  refine TI.mono ?_
  rintro e w4 ⟨rfl, F3, b4⟩
  clear TI
  have s4 := lt_of_block F3
  have U1 := nine_below HV1.out b4
  have U2 := nine_below HV2.out b4
  have U3 := nine_below HV3.out b4
  have G1 := full_belo HF1.out b4
  have G2 := full_belo HF2.out b4
  have BW := HB.out.trans (b4.mono HB.out.size)
  clear HV1 HV2 HV3 HF1 HF2 HB b4
  generalize hQ3 : Z.heap.size = q3 at *
  have V3 := nine_set6 U3 (.slice (some ⟨q3, 0, none⟩) H.mourned.length H.mourned.length)
  have C3 := one_ch w4 B3 6 (.slice (some ⟨q3, 0, none⟩) H.mourned.length H.mourned.length)
  have V1 := nine_ch U1 C3 n13
  have V2 := nine_ch U2 C3 n23
  have F1' := full_ch G1 C3 (by simp; omega)
  have F2' := full_ch G2 C3 (by simp; omega)
  have F3' := full_ch F3 C3 (by simp; omega)
  have BW' := BW.setCell (p := ⟨B3, 6, none⟩) g3 (.slice (some ⟨q3, 0, none⟩) H.mourned.length H.mourned.length)
  have sV : (w4.setCell ⟨B3, 6, none⟩ (.slice (some ⟨q3, 0, none⟩) H.mourned.length H.mourned.length)).heap.size = w4.heap.size := by simp
  have TI := toInt64S_any (intsAt_below HA.out.2.2.2 BW') l4
  obtain ⟨⟨k0, k1, k2, k3, k4⟩, ⟨k5, k6, k7, k8⟩, _⟩ := nine_cells U1
  obtain ⟨⟨j0, j1, j2, j3, j4⟩, ⟨j5, j6, j7, j8⟩, jf⟩ := nine_cells U3
  have f6 := jf 6
  have HV1 : Hid _ := V1
  have HV2 : Hid _ := V2
  have HV3 : Hid _ := V3
  have HF1 : Hid _ := F1'
  have HF2 : Hid _ := F2'
  have HF3 : Hid _ := F3'
  have HB : Hid _ := BW'
  clear U1 U2 U3 V1 V2 V3 G1 G2 F1' F2' F3 F3' C3 BW BW' jf HA
  go_wp2_with fail
  generalize hV : (w4.setCell ⟨B3, 6, none⟩ (.slice (some ⟨q3, 0, none⟩) H.mourned.length H.mourned.length)) = V at *
  have sV1 : w4.heap.size ≤ V.heap.size := by omega
  clear sV hV k0 k1 k2 k3 k4 k5 k6 k7 k8 j0 j1 j2 j3 j4 j5 j6 j7 j8 f6
  refine TI.mono ?_
  rintro e w5 ⟨rfl, F4, b5⟩
  clear TI
  have s5 := lt_of_block F4
  have U1 := nine_below HV1.out b5
  have U2 := nine_below HV2.out b5
  have U3 := nine_below HV3.out b5
  have G1 := full_belo HF1.out b5
  have G2 := full_belo HF2.out b5
  have G3 := full_belo HF3.out b5
  have BW := HB.out.trans (b5.mono HB.out.size)
  clear HV1 HV2 HV3 HF1 HF2 HF3 HB b5
  generalize hQ4 : V.heap.size = q4 at *
  obtain ⟨Y5, hY5⟩ : ∃ Y5, Y5 = (w5.setCell ⟨B3, 7, none⟩ (.slice (some ⟨q4, 0, none⟩) H.seen.length H.seen.length)).setCell ⟨B3, 8, none⟩ (.int .i64 H.seed) := ⟨_, rfl⟩
  have C5 : Ch [B3] w5 Y5 := by rw [hY5]; exact (one_ch _ _ _ _).trans (one_ch _ _ _ _)
  have V2 := nine_ch U2 C5 n23
  have W := nine_sets V2 (.int .i64 H.half) (.int .i64 H.old) (.slice (some ⟨q1, 0, none⟩) H.row.length H.row.length) (.int .i64 H.side) (.int .i64 H.top) (.slice (some ⟨q2, 0, none⟩) H.roots.length H.roots.length) (.slice (some ⟨q3, 0, none⟩) H.mourned.length H.mourned.length) (.slice (some ⟨q4, 0, none⟩) H.seen.length H.seen.length) (.int .i64 H.seed)
  have C7 := (C5.mono (T := [B2, B3]) (fun k hk => by rw [List.mem_singleton] at hk; rw [hk]; simp)).trans ((nine_other (X := Y5) (b := B2) (.int .i64 H.half) (.int .i64 H.old) (.slice (some ⟨q1, 0, none⟩) H.row.length H.row.length) (.int .i64 H.side) (.int .i64 H.top) (.slice (some ⟨q2, 0, none⟩) H.roots.length H.roots.length) (.slice (some ⟨q3, 0, none⟩) H.mourned.length H.mourned.length) (.slice (some ⟨q4, 0, none⟩) H.seen.length H.seen.length) (.int .i64 H.seed)).mono (T := [B2, B3]) (fun k hk => by rw [List.mem_singleton] at hk; rw [hk]; simp))
  have far : ∀ k, q1 ≤ k → k ∉ [B2, B3] := fun k hk e => by simp only [List.mem_cons, List.not_mem_nil, or_false] at e; omega
  have R1 := full_ch G1 C7 (far q1 (by omega))
  have R2 := full_ch G2 C7 (far q2 (by omega))
  have R3 := full_ch G3 C7 (far q3 (by omega))
  have R4 := full_ch F4 C7 (far q4 (by omega))
  have B7 : Below w.heap.size w _ := nine_belows (show Below w.heap.size w Y5 by rw [hY5]; exact (BW.setCell (p := ⟨B3, 7, none⟩) g3 _).setCell (p := ⟨B3, 8, none⟩) g3 _) g2 (.int .i64 H.half) (.int .i64 H.old) (.slice (some ⟨q1, 0, none⟩) H.row.length H.row.length) (.int .i64 H.side) (.int .i64 H.top) (.slice (some ⟨q2, 0, none⟩) H.roots.length H.roots.length) (.slice (some ⟨q3, 0, none⟩) H.mourned.length H.mourned.length) (.slice (some ⟨q4, 0, none⟩) H.seen.length H.seen.length) (.int .i64 H.seed)
  have ND : (hblk (.slice (some ⟨q1, 0, none⟩) H.row.length H.row.length) (.slice (some ⟨q2, 0, none⟩) H.roots.length H.roots.length) (.slice (some ⟨q3, 0, none⟩) H.mourned.length H.mourned.length) (.slice (some ⟨q4, 0, none⟩) H.seen.length H.seen.length)).Nodup := by
    show ([q1] ++ [q2] ++ [q3] ++ [q4]).Nodup
    simp
    omega
  have OG : OwnH _ w.heap.size _ _ _ _ H := ⟨⟨full_own (base := w.heap.size) R1 (by omega) (by unfold maxLen; omega), full_own (base := w.heap.size) R2 (by omega) (by unfold maxLen; omega), full_own (base := w.heap.size) R3 (by omega) (by unfold maxLen; omega), full_own (base := w.heap.size) R4 (by omega) (by unfold maxLen; omega)⟩, ND⟩
  obtain ⟨⟨k0, k1, k2, k3, k4⟩, ⟨k5, k6, k7, k8⟩, _⟩ := nine_cells U1
  obtain ⟨⟨j0, j1, j2, j3, j4⟩, ⟨j5, j6, j7, j8⟩, jf⟩ := nine_cells U3
  obtain ⟨⟨i0, i1, i2, i3, i4⟩, ⟨i5, i6, i7, i8⟩, iF⟩ := nine_cells U2
  have f7 := jf 7
  have f8 := jf 8
  have d0 := iF 0
  have d1 := iF 1
  have d2 := iF 2
  have d3 := iF 3
  have d4 := iF 4
  have d5 := iF 5
  have d6 := iF 6
  have d7 := iF 7
  have d8 := iF 8
  have HOG : Hid _ := OG
  have HW : Hid _ := W
  have HB7 : Hid _ := B7
  have HY5 : Hid _ := hY5
  clear R1 R2 R3 R4 B7 ND OG W C5 C7 V2 U1 U2 U3 G1 G2 G3 F4 BW far jf iF hY5
  go_wp2
  rw [HY5.out] at HW HOG HB7
  exact bodyPost_ret (res_heap rfl rfl HW.out) rfl ⟨_, _, _, _, rfl, HOG.out, HB7.out⟩

end Go.Proofs.YtemlagfaaibenaaGreat.hp
