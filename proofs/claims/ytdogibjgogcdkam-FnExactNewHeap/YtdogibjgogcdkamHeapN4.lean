/-
  Chapter 9: a new heap by the program.
  Made from the template HeapN4.
-/
import Derived.Test.YtdogibjgogcdkamHeapN3
namespace Go.Proofs.Ytdogibjgogcdkam.hp
open Go.RowKit rows heads words walks
set_option maxRecDepth 100000
set_option linter.unusedVariables false
set_option linter.unusedSimpArgs false

set_option maxHeartbeats 8000000 in
theorem implNewHeap_no (x y z : Int) (w : World) (d : nOk x y z = false) :
    Calls Try.prog 27 #[.int .i64 x, .int .i64 y, .int .i64 z] w fun e w' => ∃ vr vo vm vs, e = .returned (.tuple #[hpv hp0 vr vo vm vs, .bool false]) ∧ OwnH w' w.heap.size vr vo vm vs hp0 ∧ Below w.heap.size w w' := by
  have T0 : Nine (w.alloc (.cells #[.int .i64 0, .int .i64 0, .slice none 0 0, .int .i64 0, .int .i64 0, .slice none 0 0, .slice none 0 0, .slice none 0 0, .int .i64 0] 37)) w.heap.size 37 (.int .i64 0) (.int .i64 0) (.slice none 0 0) (.int .i64 0) (.int .i64 0) (.slice none 0 0) (.slice none 0 0) (.slice none 0 0) (.int .i64 0) := nine_mk w _ _ _ _ _ _ _ _ _ _
  have B0 : Below w.heap.size w (w.alloc (.cells #[.int .i64 0, .int .i64 0, .slice none 0 0, .int .i64 0, .int .i64 0, .slice none 0 0, .slice none 0 0, .slice none 0 0, .int .i64 0] 37)) := (Below.refl _ w).alloc (Nat.le_refl _) _
  have sX : w.heap.size < (w.alloc (.cells #[.int .i64 0, .int .i64 0, .slice none 0 0, .int .i64 0, .int .i64 0, .slice none 0 0, .slice none 0 0, .slice none 0 0, .int .i64 0] 37)).heap.size := by simp
  generalize hn0 : w.heap.size = n0 at *
  have HT0 : Hid _ := T0
  have HB0 : Hid _ := B0
  clear T0 B0
  have SZ := sizesOk_any x y
  have HR := hashInRange_any z
  unfold nOk at d
  cases ds : (evn 8 200 x && evn 8 400 y)
  · rw [ds] at SZ
    clear d ds HR
    go_enter Try.func27, Try.ntmps27
    go_wp2_with fail
    generalize (w.alloc (.cells #[.int .i64 0, .int .i64 0, .slice none 0 0, .int .i64 0, .int .i64 0, .slice none 0 0, .slice none 0 0, .slice none 0 0, .int .i64 0] 37)) = X0 at *
    refine (SZ _).mono ?_
    clear SZ
    rintro e w3 ⟨rfl, hw3⟩
    rw [hw3]
    clear hw3 w3
    obtain ⟨⟨v0, v1, v2, v3, v4⟩, ⟨v5, v6, v7, v8⟩, vf⟩ := nine_cells HT0.out
    have g0 := vf 0
    have g1 := vf 1
    have g2 := vf 2
    have g3 := vf 3
    have g4 := vf 4
    have g5 := vf 5
    have g6 := vf 6
    have g7 := vf 7
    have g8 := vf 8
    have HTX : Hid _ := nine_sets HT0.out (.int .i64 0) (.int .i64 0) (.slice none 0 0) (.int .i64 0) (.int .i64 0) (.slice none 0 0) (.slice none 0 0) (.slice none 0 0) (.int .i64 0)
    have HBX : Hid _ := nine_belows HB0.out (Nat.le_refl n0) (.int .i64 0) (.int .i64 0) (.slice none 0 0) (.int .i64 0) (.int .i64 0) (.slice none 0 0) (.slice none 0 0) (.slice none 0 0) (.int .i64 0)
    clear vf
    go_wp2
    exact bodyPost_ret (res_heap2 rfl rfl rfl HTX.out) rfl ⟨_, _, _, _, rfl, ownH_zero _ _, HBX.out⟩
  · rw [ds] at SZ
    rw [ds, Bool.true_and] at d
    rw [d] at HR
    clear d ds
    go_enter Try.func27, Try.ntmps27
    go_wp2_with fail
    generalize (w.alloc (.cells #[.int .i64 0, .int .i64 0, .slice none 0 0, .int .i64 0, .int .i64 0, .slice none 0 0, .slice none 0 0, .slice none 0 0, .int .i64 0] 37)) = X0 at *
    refine (SZ _).mono ?_
    clear SZ
    rintro e w3 ⟨rfl, hw3⟩
    rw [hw3]
    clear hw3 w3
    obtain ⟨⟨v0, v1, v2, v3, v4⟩, ⟨v5, v6, v7, v8⟩, vf⟩ := nine_cells HT0.out
    have g0 := vf 0
    have g1 := vf 1
    have g2 := vf 2
    have g3 := vf 3
    have g4 := vf 4
    have g5 := vf 5
    have g6 := vf 6
    have g7 := vf 7
    have g8 := vf 8
    have HTX : Hid _ := nine_sets HT0.out (.int .i64 0) (.int .i64 0) (.slice none 0 0) (.int .i64 0) (.int .i64 0) (.slice none 0 0) (.slice none 0 0) (.slice none 0 0) (.int .i64 0)
    have HBX : Hid _ := nine_belows HB0.out (Nat.le_refl n0) (.int .i64 0) (.int .i64 0) (.slice none 0 0) (.int .i64 0) (.int .i64 0) (.slice none 0 0) (.slice none 0 0) (.slice none 0 0) (.int .i64 0)
    clear vf
    go_wp2_with (have hh := HR; clear hh; go_at_call 61; refine (HR _).mono ?_; clear HR; rintro e w3 ⟨rfl, hw3⟩; rw [hw3]; clear hw3 w3)
    exact bodyPost_ret (res_heap2 rfl rfl rfl HTX.out) rfl ⟨_, _, _, _, rfl, ownH_zero _ _, HBX.out⟩

set_option maxHeartbeats 8000000 in
theorem implNewHeap_yes (X Y : Nat) (z : Int) (w : World) (hX : 8 ≤ X ∧ X ≤ 200 ∧ X % 2 = 0) (hY : 8 ≤ Y ∧ Y ≤ 400 ∧ Y % 2 = 0) (hz : inR 0 65535 z = true) :
    Calls Try.prog 27 #[.int .i64 (X : Int), .int .i64 (Y : Int), .int .i64 z] w fun e w' => ∃ vr vo vm vs, e = .returned (.tuple #[hpv (hMade X Y z) vr vo vm vs, .bool true]) ∧ OwnH w' w.heap.size vr vo vm vs (hMade X Y z) ∧ Below w.heap.size w w' := by
  obtain ⟨i0, hi, hz0, hz1, hz2⟩ := info_parts info
  have T0 : Nine (w.alloc (.cells #[.int .i64 0, .int .i64 0, .slice none 0 0, .int .i64 0, .int .i64 0, .slice none 0 0, .slice none 0 0, .slice none 0 0, .int .i64 0] 37)) w.heap.size 37 (.int .i64 0) (.int .i64 0) (.slice none 0 0) (.int .i64 0) (.int .i64 0) (.slice none 0 0) (.slice none 0 0) (.slice none 0 0) (.int .i64 0) := nine_mk w _ _ _ _ _ _ _ _ _ _
  have B0 : Below w.heap.size w (w.alloc (.cells #[.int .i64 0, .int .i64 0, .slice none 0 0, .int .i64 0, .int .i64 0, .slice none 0 0, .slice none 0 0, .slice none 0 0, .int .i64 0] 37)) := (Below.refl _ w).alloc (Nat.le_refl _) _
  have sX : w.heap.size < (w.alloc (.cells #[.int .i64 0, .int .i64 0, .slice none 0 0, .int .i64 0, .int .i64 0, .slice none 0 0, .slice none 0 0, .slice none 0 0, .int .i64 0] 37)).heap.size := by simp
  generalize hn0 : w.heap.size = n0 at *
  have HT0 : Hid _ := T0
  have HB0 : Hid _ := B0
  clear T0 B0
  have HI : Hid _ := And.intro hi (And.intro hz0 (And.intro hz1 hz2))
  have SZ := sizesOk_any X Y
  have HR := hashInRange_any z
  rw [show (evn 8 200 (X : Int) && evn 8 400 (Y : Int)) = true by simp [evn, inR]; omega] at SZ
  rw [hz] at HR
  obtain ⟨M, hM⟩ : ∃ M : Nat, 2 * X = M := ⟨_, rfl⟩
  obtain ⟨L, hL⟩ : ∃ L : Nat, 2 * X + Y = L := ⟨_, rfl⟩
  have eM : 2 * (X : Int) = (M : Int) := by omega
  have bL : L ≤ 800 := by omega
  have bM : M ≤ 400 := by omega
  have bX : X ≤ 200 := hX.2.1
  have bY : Y ≤ 400 := hY.2.1
  have RL := rowLength_any X Y L hL (by omega)
  have PH : Hid (∀ (W : World) (q : Nat), Full W q (List.replicate L 0) → Calls Try.prog 49 #[fcv M Y, .slice (some ⟨q, 0, none⟩) L L] W fun e w' => e = .returned (.tuple #[]) ∧ Full w' q (freeR (List.replicate L 0) (2 * X) Y) ∧ W.grownBy w' (some q)) := fun W q F => by
    have P := putHead_any (len := L) (cap := L) (k := M) (n := Y) F (by simp) (by omega) (by omega) (by omega)
    have e : ((List.replicate L (0 : Int)).set M (pk 0 6 0 0 false false)).set (M + 1) (Y : Int) = freeR (List.replicate L 0) (2 * X) Y := by
      have := freeR_set (xs := List.replicate L (0 : Int)) (k := M) (n := Y) (by simp; omega) (by omega)
      rw [fill_zeros (L := L) (k := M) (n := Y) (by omega)] at this
      rw [this, hM]
    rw [e] at P
    exact P
  have HM : Hid _ := hM
  have HL : Hid _ := hL
  have HXY : Hid _ := And.intro hX hY
  clear hM hL hz hi hz0 hz1 hz2 hX hY
  go_enter Try.func27, Try.ntmps27
  go_wp2_with fail
  generalize (w.alloc (.cells #[.int .i64 0, .int .i64 0, .slice none 0 0, .int .i64 0, .int .i64 0, .slice none 0 0, .slice none 0 0, .slice none 0 0, .int .i64 0] 37)) = X0 at *
  refine (SZ _).mono ?_
  clear SZ
  rintro e w3 ⟨rfl, hw3⟩
  rw [hw3]
  clear hw3 w3
  obtain ⟨W1, hW1⟩ : ∃ W1, W1 = X0.alloc (.cells #[.int .i64 (X : Int), .int .i64 (Y : Int), .slice none 0 0, .int .i64 0, .int .i64 0, .slice none 0 0, .slice none 0 0, .slice none 0 0, .int .i64 z] 37) := ⟨_, rfl⟩
  have N1 : Nine W1 X0.heap.size 37 (.int .i64 (X : Int)) (.int .i64 (Y : Int)) (.slice none 0 0) (.int .i64 0) (.int .i64 0) (.slice none 0 0) (.slice none 0 0) (.slice none 0 0) (.int .i64 z) := by rw [hW1]; exact nine_mk X0 _ _ _ _ _ _ _ _ _ _
  have b1 : Below X0.heap.size X0 W1 := by rw [hW1]; exact (Below.refl _ _).alloc (Nat.le_refl _) _
  have R1 := nine_below HT0.out b1
  have A1 := HB0.out.trans (b1.mono (Nat.le_of_lt sX))
  have s1 : X0.heap.size < W1.heap.size := by rw [hW1]; simp
  have HW1 : Hid _ := hW1
  have sW : n0 ≤ W1.heap.size := by omega
  have HN1 : Hid _ := N1
  have HR1 : Hid _ := R1
  have HA1 : Hid _ := A1
  clear hW1 N1 b1 R1 A1 HT0 HB0
  go_upto_region 4 with (have hh := HR; clear hh; go_at_call 61; refine (HR _).mono ?_; clear HR; rintro e w3 ⟨rfl, hw3⟩; rw [hw3]; clear hw3 w3)
  rw [← HW1.out]
  generalize hP : X0.heap.size = P at *
  have RL' := RL W1
  clear RL HW1
  go_wp2_with fail
  refine RL'.mono ?_
  clear RL'
  rintro e w3 ⟨rfl, hw3⟩
  rw [hw3]
  clear hw3 w3
  go_wp2_with (at_make; refine wpList_make_full _ rfl _ _ 22 rfl n0 2 i0 (.int .i64 0) 1 Try.underlying22 HI.out.1 HI.out.2.1 HI.out.2.2.1 _ _ _ _ L rfl rfl rfl rfl (by rw [HI.out.2.2.2]; omega) (by unfold maxLen; omega) sW ?_; intro w1 hown hgrow; have HO : Hid _ := hown; have HG : Hid _ := hgrow; clear hown hgrow; refine Hid.out ?_)
  have BX : Below W1.heap.size W1 w1 := (Below.refl _ _).grown HG.out (Nat.le_refl _) (fun k e => by cases e)
  have F1 : Full w1 W1.heap.size (List.replicate L 0) := own_full HO.out (by simp [cellsOf, toList_madeCells_one, Value.cells])
  have sq := lt_of_block F1
  have N2 := nine_below HN1.out BX
  have R2 := nine_below HR1.out BX
  have A2 := HA1.out.trans (BX.mono sW)
  generalize hq : W1.heap.size = q at *
  have C2 := one_ch w1 P 2 (.slice (some ⟨q, 0, none⟩) L L)
  have N3 := nine_set2 N2 (.slice (some ⟨q, 0, none⟩) L L)
  have R3 := nine_ch R2 C2 (by simp; omega)
  have F3 := full_ch F1 C2 (by simp; omega)
  have A3 := A2.setCell (p := ⟨P, 2, none⟩) (show n0 ≤ P by omega) (.slice (some ⟨q, 0, none⟩) L L)
  have PH1 := PH.out _ q F3
  obtain ⟨⟨k0, k1, k2, k3, k4⟩, ⟨k5, k6, k7, k8⟩, kf⟩ := nine_cells N2
  obtain ⟨⟨j0, j1, j2, j3, j4⟩, ⟨j5, j6, j7, j8⟩, _⟩ := nine_cells N3
  have f2 := kf 2
  have s3 : w1.heap.size ≤ (w1.setCell ⟨P, 2, none⟩ (.slice (some ⟨q, 0, none⟩) L L)).heap.size := by simp
  have HN3 : Hid _ := N3
  have HR3 : Hid _ := R3
  have HF3 : Hid _ := F3
  have HA3 : Hid _ := A3
  clear HO HG BX F1 N2 R2 A2 C2 N3 R3 F3 A3 HN1 HR1 HA1 kf PH
  refine Go.Lib.hid ?_
  go_wp2_with fail
  generalize (w1.setCell ⟨P, 2, none⟩ (.slice (some ⟨q, 0, none⟩) L L)) = Y1 at *
  refine PH1.mono ?_
  rintro e w2 ⟨rfl, F4, G4⟩
  have C4 : Ch [q] Y1 w2 := ⟨G4.os, G4.tape, G4.output, G4.size, fun b hb hn => G4.block b hb (fun e => hn (by injection e with e; simp [e]))⟩
  have N4 := nine_ch HN3.out C4 (by simp; omega)
  have R4 := nine_ch HR3.out C4 (by simp; omega)
  have A4 := HA3.out.trans (below_ch C4 (by have := HA3.out.size; omega) (fun b hb => by simp at hb; omega))
  have s4 := C4.size
  have B5 := (Below.refl w2.heap.size w2).alloc (Nat.le_refl _) (.cells #[.int .i64 2] 2)
  have N5 := nine_below N4 B5
  have R5 := nine_below R4 B5
  have F5 := full_belo F4 B5
  have A5 := A4.trans (B5.mono (by have := A4.size; omega))
  have RE := repeat_any (w := w2.alloc (.cells #[.int .i64 2] 2)) (b := w2.heap.size) (heap_alloc_new w2 _)
  have s5 : w2.heap.size < (w2.alloc (.cells #[.int .i64 2] 2)).heap.size := by simp
  have HN5 : Hid _ := N5
  have HR5 : Hid _ := R5
  have HF5 : Hid _ := F5
  have HA5 : Hid _ := A5
  clear PH1 F4 G4 C4 N4 R4 A4 B5 N5 R5 F5 A5 HN3 HR3 HF3 HA3 k0 k1 k2 k3 k4 k5 k6 k7 k8 j0 j1 j2 j3 j4 j5 j6 j7 j8 f2
  go_wp2_with fail
  generalize (w2.alloc (.cells #[.int .i64 2] 2)) = Y2 at *
  refine RE.mono ?_
  rintro e w3 ⟨rfl, F6, B6⟩
  have N6 := nine_below HN5.out B6
  have R6 := nine_below HR5.out B6
  have F6' := full_belo HF5.out B6
  have A6 := HA5.out.trans (B6.mono (by have := HA5.out.size; omega))
  have s6 := lt_of_block F6
  generalize hr : Y2.heap.size = r at *
  have C7 := one_ch w3 P 5 (.slice (some ⟨r, 0, none⟩) 6 6)
  have N7 := nine_set5 N6 (.slice (some ⟨r, 0, none⟩) 6 6)
  have R7 := nine_ch R6 C7 (by simp; omega)
  have F7 := full_ch F6 C7 (by simp; omega)
  have F7' := full_ch F6' C7 (by simp; omega)
  have A7 := A6.setCell (p := ⟨P, 5, none⟩) (show n0 ≤ P by omega) (.slice (some ⟨r, 0, none⟩) 6 6)
  have W8 := nine_sets R7 (.int .i64 (X : Int)) (.int .i64 (Y : Int)) (.slice (some ⟨q, 0, none⟩) L L) (.int .i64 0) (.int .i64 0) (.slice (some ⟨r, 0, none⟩) 6 6) (.slice none 0 0) (.slice none 0 0) (.int .i64 z)
  have C8 := nine_other (X := w3.setCell ⟨P, 5, none⟩ (.slice (some ⟨r, 0, none⟩) 6 6)) (b := n0) (.int .i64 (X : Int)) (.int .i64 (Y : Int)) (.slice (some ⟨q, 0, none⟩) L L) (.int .i64 0) (.int .i64 0) (.slice (some ⟨r, 0, none⟩) 6 6) (.slice none 0 0) (.slice none 0 0) (.int .i64 z)
  have A8 := nine_belows A7 (Nat.le_refl n0) (.int .i64 (X : Int)) (.int .i64 (Y : Int)) (.slice (some ⟨q, 0, none⟩) L L) (.int .i64 0) (.int .i64 0) (.slice (some ⟨r, 0, none⟩) 6 6) (.slice none 0 0) (.slice none 0 0) (.int .i64 z)
  have F8 := full_ch F7 C8 (by simp; omega)
  have F8' := full_ch F7' C8 (by simp; omega)
  have hfl : (freeR (List.replicate L (0 : Int)) (2 * X) Y).length = L := by
    have := HL.out
    have := HXY.out.2.1
    rw [freeR_length (by simp; omega) (by omega)]; simp
  have O8 : OwnH ((((((((((w3.setCell ⟨P, 5, none⟩ (.slice (some ⟨r, 0, none⟩) 6 6)).setCell ⟨n0, 0, none⟩ (.int .i64 (X : Int))).setCell ⟨n0, 1, none⟩ (.int .i64 (Y : Int))).setCell ⟨n0, 2, none⟩ (.slice (some ⟨q, 0, none⟩) L L)).setCell ⟨n0, 3, none⟩ (.int .i64 0)).setCell ⟨n0, 4, none⟩ (.int .i64 0)).setCell ⟨n0, 5, none⟩ (.slice (some ⟨r, 0, none⟩) 6 6)).setCell ⟨n0, 6, none⟩ (.slice none 0 0)).setCell ⟨n0, 7, none⟩ (.slice none 0 0)).setCell ⟨n0, 8, none⟩ (.int .i64 z)) n0 (.slice (some ⟨q, 0, none⟩) L L) (.slice (some ⟨r, 0, none⟩) 6 6) (.slice none 0 0) (.slice none 0 0) (hMade X Y z) := by
    refine ⟨⟨?_, ?_, World.ownsRow_nil _ _ _ _, World.ownsRow_nil _ _ _ _⟩, ?_⟩
    · show Own _ n0 _ (freeR (List.replicate (2 * X + Y) 0) (2 * X) Y)
      rw [HL.out]
      have := full_own (base := n0) F8' (by omega) (by unfold maxLen; omega)
      rwa [hfl] at this
    · exact full_own (base := n0) (xs := List.replicate 6 2) F8 (by omega) (by decide)
    · show ([q] ++ [r] ++ [] ++ []).Nodup
      simp
      omega
  obtain ⟨⟨k0, k1, k2, k3, k4⟩, ⟨k5, k6, k7, k8⟩, kf⟩ := nine_cells N6
  obtain ⟨⟨i0', i1', i2', i3', i4'⟩, ⟨i5', i6', i7', i8'⟩, iF⟩ := nine_cells R6
  have f5 := kf 5
  have d0 := iF 0
  have d1 := iF 1
  have d2 := iF 2
  have d3 := iF 3
  have d4 := iF 4
  have d5 := iF 5
  have d6 := iF 6
  have d7 := iF 7
  have d8 := iF 8
  have HW8 : Hid _ := W8
  have HA8 : Hid _ := A8
  have HO8 : Hid _ := O8
  clear RE N6 R6 F6 F6' A6 B6 C7 N7 R7 F7 F7' A7 W8 C8 A8 F8 F8' O8 kf iF HN5 HR5 HF5 HA5 hfl
  go_wp2
  exact bodyPost_ret (res_heap2 rfl rfl rfl HW8.out) rfl ⟨_, _, _, _, rfl, HO8.out, HA8.out⟩

theorem sNewHeap_any (x y z : Int) (w : World) :
    Calls Try.prog 26 #[.int .i64 x, .int .i64 y, .int .i64 z] w fun e w' => ∃ vr vo vm vs, e = .returned (.tuple #[hpv (hNew x y z).1 vr vo vm vs, .bool (hNew x y z).2]) ∧ OwnH w' w.heap.size vr vo vm vs (hNew x y z).1 ∧ Below w.heap.size w w' := by
  cases d : nOk x y z
  · have e : hNew x y z = (hp0, false) := by unfold hNew; rw [d]; rfl
    rw [e]
    exact sNewHeap_no x y z w d
  · have d' := d
    simp only [nOk, Bool.and_eq_true] at d'
    have e1 := evn_true d'.1.1
    have e2 := evn_true d'.1.2
    obtain ⟨X, rfl⟩ := Int.eq_ofNat_of_zero_le (show 0 ≤ x by omega)
    obtain ⟨Y, rfl⟩ := Int.eq_ofNat_of_zero_le (show 0 ≤ y by omega)
    have e : hNew X Y z = (hMade X Y z, true) := by
      unfold hNew
      rw [if_pos d]
      unfold hMade
      rw [show (2 * (X : Int) + Y).toNat = 2 * X + Y by omega, show (2 * (X : Int)).toNat = 2 * X by omega, Int.toNat_natCast]
    rw [e]
    exact sNewHeap_yes X Y z w ⟨by omega, by omega, by omega⟩ ⟨by omega, by omega, by omega⟩ d'.2
theorem implNewHeap (x y z : Int) (w : World) :
    Calls Try.prog 27 #[.int .i64 x, .int .i64 y, .int .i64 z] w fun e w' => ∃ vr vo vm vs, e = .returned (.tuple #[hpv (hNew x y z).1 vr vo vm vs, .bool (hNew x y z).2]) ∧ OwnH w' w.heap.size vr vo vm vs (hNew x y z).1 ∧ Below w.heap.size w w' := by
  cases d : nOk x y z
  · have e : hNew x y z = (hp0, false) := by unfold hNew; rw [d]; rfl
    rw [e]
    exact implNewHeap_no x y z w d
  · have d' := d
    simp only [nOk, Bool.and_eq_true] at d'
    have e1 := evn_true d'.1.1
    have e2 := evn_true d'.1.2
    obtain ⟨X, rfl⟩ := Int.eq_ofNat_of_zero_le (show 0 ≤ x by omega)
    obtain ⟨Y, rfl⟩ := Int.eq_ofNat_of_zero_le (show 0 ≤ y by omega)
    have e : hNew X Y z = (hMade X Y z, true) := by
      unfold hNew
      rw [if_pos d]
      unfold hMade
      rw [show (2 * (X : Int) + Y).toNat = 2 * X + Y by omega, show (2 * (X : Int)).toNat = 2 * X by omega, Int.toNat_natCast]
    rw [e]
    exact implNewHeap_yes X Y z w ⟨by omega, by omega, by omega⟩ ⟨by omega, by omega, by omega⟩ d'.2
end Go.Proofs.Ytdogibjgogcdkam.hp
