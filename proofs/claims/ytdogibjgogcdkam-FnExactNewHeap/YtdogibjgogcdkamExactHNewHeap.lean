/-
  The walk of the law FnExactNewHeap, given what the program's and the specification's NewHeap answer.
  Made from the template ExactHNewHeap.
-/
import Derived.Test.YtdogibjgogcdkamHeapK
import Derived.Test.YtdogibjgogcdkamHeapE
namespace Go.Proofs.Ytdogibjgogcdkam.hp
open Go.RowKit rows heads words walks
set_option maxRecDepth 100000
set_option linter.unusedVariables false

set_option maxHeartbeats 16000000 in
theorem exactNewHeap {R : Hp} {b : Bool} (x y z : Int)
    (SPEC : ∀ (w : World), Calls Try.prog 26 #[.int .i64 x, .int .i64 y, .int .i64 z] w fun e w' => ∃ (o' r' m' s' : Value), e = .returned (.tuple #[hpv R o' r' m' s', .bool b]) ∧ OwnH w' w.heap.size o' r' m' s' R ∧ Below w.heap.size w w')
    (IMPL : ∀ (w : World), Calls Try.prog 27 #[.int .i64 x, .int .i64 y, .int .i64 z] w fun e w' => ∃ (o' r' m' s' : Value), e = .returned (.tuple #[hpv R o' r' m' s', .bool b]) ∧ OwnH w' w.heap.size o' r' m' s' R ∧ Below w.heap.size w w')
    (HRR : Hid (hpSize R ≤ 1048576)) (w : World) :
    Calls Try.prog 8 #[.int .i64 x, .int .i64 y, .int .i64 z] w fun e w' => e = .returned (.bool true) ∧ Below w.heap.size w w' := by
  have SP := SPEC w
  clear SPEC
  go_enter Try.func8, Try.ntmps8
  go_wp2_with fail
  refine SP.mono ?_
  rintro e w3 ⟨o3, r3, m3, rs3, rfl, O3, q3⟩
  obtain ⟨d1, g1, d2, g2, d3, g3, d1z, g1z, e1, e2, e3, e4⟩ := hpAt_slices (ownH_at O3)
  subst e1 e2 e3 e4
  have N3 := (Below.refl w3.heap.size w3).alloc (Nat.le_refl _) (hpb R (.slice d1 R.row.length g1) (.slice d2 R.roots.length g2) (.slice d3 R.mourned.length g3) (.slice d1z R.seen.length g1z))
  have B4 := q3.trans (N3.mono q3.size)
  have W4 := nine_mk w3 37 (.int .i64 R.half) (.int .i64 R.old) (.slice d1 R.row.length g1) (.int .i64 R.side) (.int .i64 R.top) (.slice d2 R.roots.length g2) (.slice d3 R.mourned.length g3) (.slice d1z R.seen.length g1z) (.int .i64 R.seed)
  have O4 := ownH_below O3 N3
  have L4 := ownH_lt O3
  have IM := IMPL (w3.alloc (hpb R (.slice d1 R.row.length g1) (.slice d2 R.roots.length g2) (.slice d3 R.mourned.length g3) (.slice d1z R.seen.length g1z)))
  have p12 : w3.heap.size < (w3.alloc (hpb R (.slice d1 R.row.length g1) (.slice d2 R.roots.length g2) (.slice d3 R.mourned.length g3) (.slice d1z R.seen.length g1z))).heap.size := by simp
  have HB4 : Hid _ := B4
  have HW4 : Hid _ := W4
  have HO4 : Hid _ := O4
  have HL4 : Hid _ := L4
  clear SP N3 B4 W4 O4 O3 q3 L4
  go_wp2_with fail
  generalize hX4 : (w3.alloc (hpb R (.slice d1 R.row.length g1) (.slice d2 R.roots.length g2) (.slice d3 R.mourned.length g3) (.slice d1z R.seen.length g1z))) = X4 at *
  generalize hP12 : w3.heap.size = P12 at *
  clear hX4
  refine IM.mono ?_
  rintro e w7 ⟨o7, r7, m7, rs7, rfl, O7, q7⟩
  have s7 := q7.size
  have HX4 : Hid (w.heap.size ≤ X4.heap.size) := HB4.out.size
  have B7 := HB4.out.trans (q7.mono HB4.out.size)
  have W7 := nine_below HW4.out q7
  have OW7 := ownH_below HO4.out q7
  obtain ⟨k1, m1, k2, m2, k3, m3, k1z, m1z, e1, e2, e3, e4⟩ := hpAt_slices (ownH_at O7)
  subst e1 e2 e3 e4
  have N7 := (Below.refl w7.heap.size w7).alloc (Nat.le_refl _) (hpb R (.slice k1 R.row.length m1) (.slice k2 R.roots.length m2) (.slice k3 R.mourned.length m3) (.slice k1z R.seen.length m1z))
  have B8 := B7.trans (N7.mono B7.size)
  have W8 := nine_below W7 N7
  have OW8 := ownH_below OW7 N7
  have Y8 := nine_mk w7 37 (.int .i64 R.half) (.int .i64 R.old) (.slice k1 R.row.length m1) (.int .i64 R.side) (.int .i64 R.top) (.slice k2 R.roots.length m2) (.slice k3 R.mourned.length m3) (.slice k1z R.seen.length m1z) (.int .i64 R.seed)
  have OY8 := ownH_below O7 N7
  have LY := ownH_lt O7
  have p15 : w7.heap.size < (w7.alloc (hpb R (.slice k1 R.row.length m1) (.slice k2 R.roots.length m2) (.slice k3 R.mourned.length m3) (.slice k1z R.seen.length m1z))).heap.size := by simp
  have bb : (b != b) = false := by simp
  have EQ := eqHeap_same (ownH_at OY8) (ownH_at OW8) (HRR.out)
  obtain ⟨⟨y0, y1, y2, y3, y4⟩, ⟨y5, y6, y7, y8⟩, _⟩ := nine_cells Y8
  obtain ⟨⟨v0, v1, v2, v3, v4⟩, ⟨v5, v6, v7, v8⟩, _⟩ := nine_cells W8
  have HB8 : Hid _ := B8
  have HW8 : Hid _ := W8
  have HOW8 : Hid _ := OW8
  have HY8 : Hid _ := Y8
  have HOY8 : Hid _ := OY8
  have HLY : Hid _ := LY
  clear IM HB4 HW4 HO4 q7 B7 W7 OW7 N7 B8 W8 OW8 Y8 OY8 LY O7
  go_wp2_with fail
  generalize hX8 : (w7.alloc (hpb R (.slice k1 R.row.length m1) (.slice k2 R.roots.length m2) (.slice k3 R.mourned.length m3) (.slice k1z R.seen.length m1z))) = X8 at *
  generalize hP15 : w7.heap.size = P15 at *
  clear hX8
  refine EQ.mono ?_
  rintro e w9 ⟨rfl, q9⟩
  have s9 := q9.size
  have B13 := HB8.out.trans (q9.mono HB8.out.size)
  have W13 := nine_below HW8.out q9
  have OW13 := ownH_below HOW8.out q9
  have Y13 := nine_below HY8.out q9
  have OY13 := ownH_below HOY8.out q9
  clear EQ HB8 HW8 HOW8 HY8 HOY8 q9 y0 y1 y2 y3 y4 y5 y6 y7 y8 v0 v1 v2 v3 v4 v5 v6 v7 v8
  have MK := markHeap_any OY13 (HRR.out)
  obtain ⟨⟨y0, y1, y2, y3, y4⟩, ⟨y5, y6, y7, y8⟩, _⟩ := nine_cells Y13
  have HB13 : Hid _ := B13
  have HW13 : Hid _ := W13
  have HOW13 : Hid _ := OW13
  have HY13 : Hid _ := Y13
  clear B13 W13 OW13 Y13 OY13
  go_wp2_with fail
  refine MK.mono ?_
  rintro e w14 ⟨kF, rfl, hkF, MD14, C14⟩
  have kF0 : ¬ (kF : Int) < 0 := by omega
  have kFF : ((kF : Int) != (kF : Int)) = false := by simp
  have fy : ∀ k ∈ hblk (.slice k1 R.row.length m1) (.slice k2 R.roots.length m2) (.slice k3 R.mourned.length m3) (.slice k1z R.seen.length m1z), X4.heap.size ≤ k ∧ k < P15 := HLY.out
  have hX4w : w.heap.size ≤ X4.heap.size := HX4.out
  have s14 := C14.size
  have B14 := HB13.out.trans (below_ch C14 HB13.out.size (fun k hk => by have := (fy k hk).1; omega))
  have W14 := nine_ch HW13.out C14 (fun e => by have := (fy _ e).1; omega)
  have Y14 := nine_ch HY13.out C14 (fun e => by have := (fy _ e).2; omega)
  have OW14 := ownH_ch HOW13.out C14 (fun k hk e => by have := (fy _ e).1; have := (HL4.out k hk).2; omega)
  clear MK C14 fy HB13 HW13 HOW13 HY13 y0 y1 y2 y3 y4 y5 y6 y7 y8
  have HE := heldHeap_any (H := R) MD14
  obtain ⟨⟨y0, y1, y2, y3, y4⟩, ⟨y5, y6, y7, y8⟩, _⟩ := nine_cells Y14
  have HB14 : Hid _ := B14
  have HW14 : Hid _ := W14
  have HOW14 : Hid _ := OW14
  have HY14 : Hid _ := Y14
  have HMD14 : Hid _ := MD14
  clear B14 W14 OW14 Y14 MD14
  go_wp2_with fail
  refine HE.mono ?_
  rintro e w15 ⟨rfl, q15⟩
  have B16 := HB14.out.trans (q15.mono HB14.out.size)
  have W16 := nine_below HW14.out q15
  have OW16 := ownH_below HOW14.out q15
  have Y16 := nine_below HY14.out q15
  have MD16 := marked_below HMD14.out q15
  clear HE q15 HB14 HW14 HOW14 HY14 HMD14 y0 y1 y2 y3 y4 y5 y6 y7 y8
  -- the program's answer once more
  have IM := IMPL w15
  have HB16 : Hid _ := B16
  have HW16 : Hid _ := W16
  have HOW16 : Hid _ := OW16
  have HY16 : Hid _ := Y16
  have HMD16 : Hid _ := MD16
  clear B16 W16 OW16 Y16 MD16
  go_wp2_with fail
  refine IM.mono ?_
  rintro e w17 ⟨o17, r17, m17, rs17, rfl, O17, q17⟩
  have B17 := HB16.out.trans (q17.mono HB16.out.size)
  have W17 := nine_below HW16.out q17
  have OW17 := ownH_below HOW16.out q17
  have Y17 := nine_below HY16.out q17
  have MD17 := marked_below HMD16.out q17
  obtain ⟨t1, t3, t4, t6, t7, t9, t1z, t3z, e1, e2, e3, e4⟩ := hpAt_slices (ownH_at O17)
  subst e1 e2 e3 e4
  have N17 := (Below.refl w17.heap.size w17).alloc (Nat.le_refl _) (hpb R (.slice t1 R.row.length t3) (.slice t4 R.roots.length t6) (.slice t7 R.mourned.length t9) (.slice t1z R.seen.length t3z))
  have B18 := B17.trans (N17.mono B17.size)
  have W18 := nine_below W17 N17
  have OW18 := ownH_below OW17 N17
  have Y18 := nine_below Y17 N17
  have MD18 := marked_below MD17 N17
  have V18 := nine_mk w17 37 (.int .i64 R.half) (.int .i64 R.old) (.slice t1 R.row.length t3) (.int .i64 R.side) (.int .i64 R.top) (.slice t4 R.roots.length t6) (.slice t7 R.mourned.length t9) (.slice t1z R.seen.length t3z) (.int .i64 R.seed)
  have O18 := ownH_below O17 N17
  have EQ := eqHeap_same (ownH_at O18) (ownH_at OW18) (HRR.out)
  obtain ⟨⟨v0, v1, v2, v3, v4⟩, ⟨v5, v6, v7, v8⟩, _⟩ := nine_cells W18
  obtain ⟨⟨y0, y1, y2, y3, y4⟩, ⟨y5, y6, y7, y8⟩, _⟩ := nine_cells V18
  have HB18 : Hid _ := B18
  have HY18 : Hid _ := Y18
  have HMD18 : Hid _ := MD18
  clear IM q17 B17 W17 OW17 Y17 MD17 N17 B18 W18 OW18 Y18 MD18 V18 O18 O17 HB16 HW16 HOW16 HY16 HMD16
  go_wp2_with fail
  generalize hX18 : (w17.alloc (hpb R (.slice t1 R.row.length t3) (.slice t4 R.roots.length t6) (.slice t7 R.mourned.length t9) (.slice t1z R.seen.length t3z))) = X18 at *
  clear hX18
  refine EQ.mono ?_
  rintro e w19 ⟨rfl, q19⟩
  have B19 := HB18.out.trans (q19.mono HB18.out.size)
  have Y19 := nine_below HY18.out q19
  have HE := heldHeap_any (H := R) (marked_below HMD18.out q19)
  clear EQ q19 HB18 HY18 HMD18 y0 y1 y2 y3 y4 y5 y6 y7 y8 v0 v1 v2 v3 v4 v5 v6 v7 v8
  obtain ⟨⟨y0, y1, y2, y3, y4⟩, ⟨y5, y6, y7, y8⟩, _⟩ := nine_cells Y19
  have HB19 : Hid _ := B19
  clear B19 Y19
  go_wp2_with fail
  refine HE.mono ?_
  rintro e w20 ⟨rfl, q20⟩
  have HB20 : Hid _ := HB19.out.trans (q20.mono HB19.out.size)
  clear HE q20 HB19
  go_wp2
  go_ret
  exact ⟨rfl, HB20⟩
end Go.Proofs.Ytdogibjgogcdkam.hp
