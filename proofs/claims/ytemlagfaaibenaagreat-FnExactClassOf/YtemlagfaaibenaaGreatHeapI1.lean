/-
  Chapter 9 as the program has it: the numbers of a heap.
  Made from the template HeapI1.
-/
import Derived.Test.YtemlagfaaibenaaGreatM8
import Derived.Test.YtemlagfaaibenaaGreatM7
namespace Go.Proofs.YtemlagfaaibenaaGreat.hp
open Go.RowKit rows heads words walks region
set_option maxRecDepth 100000
set_option linter.unusedVariables false
set_option linter.unusedSimpArgs false

/-- Are side and top right? -/
def sideB (H : Hp) : Bool := (H.side == 0 || H.side == 1) && (decide (0 ≤ H.top) && decide (H.top ≤ H.half))
/-- Are the numbers right? -/
def numB (H : Hp) : Bool := (evn 8 200 H.half && evn 8 400 H.old) && ((H.row.length : Int) == 2 * H.half + H.old) && sideB H && inR 0 65535 H.seed
theorem rowLength_int {x y : Int} (hx : 0 ≤ x ∧ x ≤ 1000) (hy : 0 ≤ y ∧ y ≤ 1000) (w : World) :
    Calls Tryz.prog 70 #[.int .i64 x, .int .i64 y] w fun e w' => e = .returned (.int .i64 (2 * x + y)) ∧ w' = w := by
  obtain ⟨X, rfl⟩ := Int.eq_ofNat_of_zero_le hx.1
  obtain ⟨Y, rfl⟩ := Int.eq_ofNat_of_zero_le hy.1
  exact (rowLength_any X Y (2 * X + Y) rfl (by omega) w).mono fun e w' ⟨he, hw⟩ => ⟨by rw [he]; congr 2, hw⟩
set_option maxHeartbeats 4000000 in
theorem sideOk_any {w : World} {vr vo vm vs : Value} {H : Hp} (h : HpAt w vr vo vm vs H) :
    Calls Tryz.prog 116 #[hpv H vr vo vm vs] w fun e w' => e = .returned (.bool (sideB H)) ∧ Below w.heap.size w w' := by
  obtain ⟨a1, c1, a2, c2, a3, c3, a4, c4, e1, e2, e3, e4⟩ := hpAt_slices h
  subst e1 e2 e3 e4
  have B0 : Below w.heap.size w (w.alloc (hpb H (.slice a1 H.row.length c1) (.slice a2 H.roots.length c2) (.slice a3 H.mourned.length c3) (.slice a4 H.seen.length c4))) := (Below.refl _ _).alloc (Nat.le_refl _) _
  have T0 := nine_new w H (.slice a1 H.row.length c1) (.slice a2 H.roots.length c2) (.slice a3 H.mourned.length c3) (.slice a4 H.seen.length c4)
  have HB0 : Hid _ := B0
  obtain ⟨⟨z0, z1, z2, z3, z4⟩, ⟨z5, z6, z7, z8⟩, _⟩ := nine_cells T0
  have key : (H.side == 0) = true ∨ ((H.side == 0) = false ∧ (H.side == 1) = true) ∨ ((H.side == 0) = false ∧ (H.side == 1) = false) := by
    cases (H.side == 0) <;> cases (H.side == 1) <;> simp
  by_cases t1 : 0 ≤ H.top
  · by_cases t2 : H.top ≤ H.half
    · rcases key with k1 | ⟨k1, k2⟩ | ⟨k1, k2⟩
      · skip
        skip
        rw [show sideB H = true by unfold sideB; simp [*]]
        clear B0 T0 h
        go_enter Tryz.func116, Tryz.ntmps116
        go_wp2
        go_ret
        exact ⟨rfl, HB0.out⟩
      · skip
        skip
        rw [show sideB H = true by unfold sideB; simp [*]]
        clear B0 T0 h
        go_enter Tryz.func116, Tryz.ntmps116
        go_wp2
        go_ret
        exact ⟨rfl, HB0.out⟩
      · skip
        skip
        rw [show sideB H = false by unfold sideB; simp [*]]
        clear B0 T0 h
        go_enter Tryz.func116, Tryz.ntmps116
        go_wp2
        go_ret
        exact ⟨rfl, HB0.out⟩
    · rcases key with k1 | ⟨k1, k2⟩ | ⟨k1, k2⟩
      · skip
        skip
        rw [show sideB H = false by unfold sideB; simp [*]]
        clear B0 T0 h
        go_enter Tryz.func116, Tryz.ntmps116
        go_wp2
        go_ret
        exact ⟨rfl, HB0.out⟩
      · skip
        skip
        rw [show sideB H = false by unfold sideB; simp [*]]
        clear B0 T0 h
        go_enter Tryz.func116, Tryz.ntmps116
        go_wp2
        go_ret
        exact ⟨rfl, HB0.out⟩
      · skip
        skip
        rw [show sideB H = false by unfold sideB; simp [*]]
        clear B0 T0 h
        go_enter Tryz.func116, Tryz.ntmps116
        go_wp2
        go_ret
        exact ⟨rfl, HB0.out⟩
  · rcases key with k1 | ⟨k1, k2⟩ | ⟨k1, k2⟩
    · skip
      skip
      rw [show sideB H = false by unfold sideB; simp [*]]
      clear B0 T0 h
      go_enter Tryz.func116, Tryz.ntmps116
      go_wp2
      go_ret
      exact ⟨rfl, HB0.out⟩
    · skip
      skip
      rw [show sideB H = false by unfold sideB; simp [*]]
      clear B0 T0 h
      go_enter Tryz.func116, Tryz.ntmps116
      go_wp2
      go_ret
      exact ⟨rfl, HB0.out⟩
    · skip
      skip
      rw [show sideB H = false by unfold sideB; simp [*]]
      clear B0 T0 h
      go_enter Tryz.func116, Tryz.ntmps116
      go_wp2
      go_ret
      exact ⟨rfl, HB0.out⟩

set_option maxHeartbeats 8000000 in
theorem numbersOk_any {w : World} {vr vo vm vs : Value} {H : Hp} (h : HpAt w vr vo vm vs H) :
    Calls Tryz.prog 93 #[hpv H vr vo vm vs] w fun e w' => e = .returned (.bool (numB H)) ∧ Below w.heap.size w w' := by
  obtain ⟨a1, c1, a2, c2, a3, c3, a4, c4, e1, e2, e3, e4⟩ := hpAt_slices h
  subst e1 e2 e3 e4
  have B0 : Below w.heap.size w (w.alloc (hpb H (.slice a1 H.row.length c1) (.slice a2 H.roots.length c2) (.slice a3 H.mourned.length c3) (.slice a4 H.seen.length c4))) := (Below.refl _ _).alloc (Nat.le_refl _) _
  have T0 := nine_new w H (.slice a1 H.row.length c1) (.slice a2 H.roots.length c2) (.slice a3 H.mourned.length c3) (.slice a4 H.seen.length c4)
  have HB0 : Hid _ := B0
  cases p1 : (evn 8 200 H.half && evn 8 400 H.old)
  · skip
    skip
    rw [show numB H = false by unfold numB; simp [*]]
    have HSZ : Hid (∀ x : Ext (w.alloc (hpb H (.slice a1 H.row.length c1) (.slice a2 H.roots.length c2) (.slice a3 H.mourned.length c3) (.slice a4 H.seen.length c4))).heap.size (w.alloc (hpb H (.slice a1 H.row.length c1) (.slice a2 H.roots.length c2) (.slice a3 H.mourned.length c3) (.slice a4 H.seen.length c4))), Calls Tryz.prog 115 #[.int .i64 H.half, .int .i64 H.old] x.to fun e w'' => e = .returned (.bool false) ∧ ∃ y : Ext (w.alloc (hpb H (.slice a1 H.row.length c1) (.slice a2 H.roots.length c2) (.slice a3 H.mourned.length c3) (.slice a4 H.seen.length c4))).heap.size (w.alloc (hpb H (.slice a1 H.row.length c1) (.slice a2 H.roots.length c2) (.slice a3 H.mourned.length c3) (.slice a4 H.seen.length c4))), w'' = y.to) := fun x => calls_grow (Nat.le_refl _) ((sizesOk_any H.half H.old x.to).mono fun e w' ⟨he, hw⟩ => ⟨by rw [he, p1], by rw [hw]; exact Below.refl _ _⟩)
    obtain ⟨⟨z0, z1, z2, z3, z4⟩, ⟨z5, z6, z7, z8⟩⟩ := nine_grow T0
    clear B0 T0 h p1
    go_enter Tryz.func93, Tryz.ntmps93
    go_upto_region 1 with fail
    generalize (w.alloc (hpb H (.slice a1 H.row.length c1) (.slice a2 H.roots.length c2) (.slice a3 H.mourned.length c3) (.slice a4 H.seen.length c4))) = X at *
    haveI := ext_any X
    refine region_grow (n := X.heap.size) (by kernel_rfl) (by kernel_rfl) ?_
    repeat (go_big_quiet_step ((first | (go_at_call 115; exact HSZ.out _))))
    refine wpQuiet_nil ?_
    intro _ hw'
    obtain ⟨x, rfl⟩ := hw'
    have HBE : Hid _ := HB0.out.trans (x.below.mono HB0.out.size)
    clear z0 z1 z2 z3 z4 z5 z6 z7 z8
    generalize x.to = W at *
    clear x this
    go_wp2
    go_ret
    exact ⟨rfl, HBE.out⟩
  · have p1' := p1
    rw [Bool.and_eq_true] at p1'
    have q1 := evn_true p1'.1
    have q2 := evn_true p1'.2
    have hb1 : 0 ≤ H.half ∧ H.half ≤ 1000 := ⟨by omega, by omega⟩
    have hb2 : 0 ≤ H.old ∧ H.old ≤ 1000 := ⟨by omega, by omega⟩
    clear p1' q1 q2
    cases p2 : ((H.row.length : Int) == 2 * H.half + H.old)
    · skip
      skip
      rw [show numB H = false by unfold numB; simp [*]]
      have HSZ : Hid (∀ x : Ext (w.alloc (hpb H (.slice a1 H.row.length c1) (.slice a2 H.roots.length c2) (.slice a3 H.mourned.length c3) (.slice a4 H.seen.length c4))).heap.size (w.alloc (hpb H (.slice a1 H.row.length c1) (.slice a2 H.roots.length c2) (.slice a3 H.mourned.length c3) (.slice a4 H.seen.length c4))), Calls Tryz.prog 115 #[.int .i64 H.half, .int .i64 H.old] x.to fun e w'' => e = .returned (.bool true) ∧ ∃ y : Ext (w.alloc (hpb H (.slice a1 H.row.length c1) (.slice a2 H.roots.length c2) (.slice a3 H.mourned.length c3) (.slice a4 H.seen.length c4))).heap.size (w.alloc (hpb H (.slice a1 H.row.length c1) (.slice a2 H.roots.length c2) (.slice a3 H.mourned.length c3) (.slice a4 H.seen.length c4))), w'' = y.to) := fun x => calls_grow (Nat.le_refl _) ((sizesOk_any H.half H.old x.to).mono fun e w' ⟨he, hw⟩ => ⟨by rw [he, p1], by rw [hw]; exact Below.refl _ _⟩)
      have HRL : Hid (∀ x : Ext (w.alloc (hpb H (.slice a1 H.row.length c1) (.slice a2 H.roots.length c2) (.slice a3 H.mourned.length c3) (.slice a4 H.seen.length c4))).heap.size (w.alloc (hpb H (.slice a1 H.row.length c1) (.slice a2 H.roots.length c2) (.slice a3 H.mourned.length c3) (.slice a4 H.seen.length c4))), Calls Tryz.prog 70 #[.int .i64 H.half, .int .i64 H.old] x.to fun e w'' => e = .returned (.int .i64 (2 * H.half + H.old)) ∧ ∃ y : Ext (w.alloc (hpb H (.slice a1 H.row.length c1) (.slice a2 H.roots.length c2) (.slice a3 H.mourned.length c3) (.slice a4 H.seen.length c4))).heap.size (w.alloc (hpb H (.slice a1 H.row.length c1) (.slice a2 H.roots.length c2) (.slice a3 H.mourned.length c3) (.slice a4 H.seen.length c4))), w'' = y.to) := fun x => calls_grow (Nat.le_refl _) ((rowLength_int hb1 hb2 x.to).mono fun e w' ⟨he, hw⟩ => ⟨he, by rw [hw]; exact Below.refl _ _⟩)
      obtain ⟨⟨z0, z1, z2, z3, z4⟩, ⟨z5, z6, z7, z8⟩⟩ := nine_grow T0
      clear B0 T0 h p1
      go_enter Tryz.func93, Tryz.ntmps93
      go_upto_region 1 with fail
      generalize (w.alloc (hpb H (.slice a1 H.row.length c1) (.slice a2 H.roots.length c2) (.slice a3 H.mourned.length c3) (.slice a4 H.seen.length c4))) = X at *
      haveI := ext_any X
      refine region_grow (n := X.heap.size) (by kernel_rfl) (by kernel_rfl) ?_
      repeat (go_big_quiet_step ((first | (go_at_call 115; exact HSZ.out _) | (go_at_call 70; exact HRL.out _))))
      refine wpQuiet_nil ?_
      intro _ hw'
      obtain ⟨x, rfl⟩ := hw'
      have HBE : Hid _ := HB0.out.trans (x.below.mono HB0.out.size)
      clear z0 z1 z2 z3 z4 z5 z6 z7 z8
      generalize x.to = W at *
      clear x this
      go_wp2
      go_ret
      exact ⟨rfl, HBE.out⟩
    · cases p3 : sideB H
      · skip
        skip
        rw [show numB H = false by unfold numB; simp [*]]
        have HSZ : Hid (∀ x : Ext (w.alloc (hpb H (.slice a1 H.row.length c1) (.slice a2 H.roots.length c2) (.slice a3 H.mourned.length c3) (.slice a4 H.seen.length c4))).heap.size (w.alloc (hpb H (.slice a1 H.row.length c1) (.slice a2 H.roots.length c2) (.slice a3 H.mourned.length c3) (.slice a4 H.seen.length c4))), Calls Tryz.prog 115 #[.int .i64 H.half, .int .i64 H.old] x.to fun e w'' => e = .returned (.bool true) ∧ ∃ y : Ext (w.alloc (hpb H (.slice a1 H.row.length c1) (.slice a2 H.roots.length c2) (.slice a3 H.mourned.length c3) (.slice a4 H.seen.length c4))).heap.size (w.alloc (hpb H (.slice a1 H.row.length c1) (.slice a2 H.roots.length c2) (.slice a3 H.mourned.length c3) (.slice a4 H.seen.length c4))), w'' = y.to) := fun x => calls_grow (Nat.le_refl _) ((sizesOk_any H.half H.old x.to).mono fun e w' ⟨he, hw⟩ => ⟨by rw [he, p1], by rw [hw]; exact Below.refl _ _⟩)
        have HRL : Hid (∀ x : Ext (w.alloc (hpb H (.slice a1 H.row.length c1) (.slice a2 H.roots.length c2) (.slice a3 H.mourned.length c3) (.slice a4 H.seen.length c4))).heap.size (w.alloc (hpb H (.slice a1 H.row.length c1) (.slice a2 H.roots.length c2) (.slice a3 H.mourned.length c3) (.slice a4 H.seen.length c4))), Calls Tryz.prog 70 #[.int .i64 H.half, .int .i64 H.old] x.to fun e w'' => e = .returned (.int .i64 (2 * H.half + H.old)) ∧ ∃ y : Ext (w.alloc (hpb H (.slice a1 H.row.length c1) (.slice a2 H.roots.length c2) (.slice a3 H.mourned.length c3) (.slice a4 H.seen.length c4))).heap.size (w.alloc (hpb H (.slice a1 H.row.length c1) (.slice a2 H.roots.length c2) (.slice a3 H.mourned.length c3) (.slice a4 H.seen.length c4))), w'' = y.to) := fun x => calls_grow (Nat.le_refl _) ((rowLength_int hb1 hb2 x.to).mono fun e w' ⟨he, hw⟩ => ⟨he, by rw [hw]; exact Below.refl _ _⟩)
        have HSD : Hid (∀ x : Ext (w.alloc (hpb H (.slice a1 H.row.length c1) (.slice a2 H.roots.length c2) (.slice a3 H.mourned.length c3) (.slice a4 H.seen.length c4))).heap.size (w.alloc (hpb H (.slice a1 H.row.length c1) (.slice a2 H.roots.length c2) (.slice a3 H.mourned.length c3) (.slice a4 H.seen.length c4))), Calls Tryz.prog 116 #[hpv H (.slice a1 H.row.length c1) (.slice a2 H.roots.length c2) (.slice a3 H.mourned.length c3) (.slice a4 H.seen.length c4)] x.to fun e w'' => e = .returned (.bool false) ∧ ∃ y : Ext (w.alloc (hpb H (.slice a1 H.row.length c1) (.slice a2 H.roots.length c2) (.slice a3 H.mourned.length c3) (.slice a4 H.seen.length c4))).heap.size (w.alloc (hpb H (.slice a1 H.row.length c1) (.slice a2 H.roots.length c2) (.slice a3 H.mourned.length c3) (.slice a4 H.seen.length c4))), w'' = y.to) := fun x => calls_grow (Nat.le_refl _) ((sideOk_any (hpAt_below h (HB0.out.trans (x.below.mono HB0.out.size)))).mono fun e w' ⟨he, hw⟩ => ⟨by rw [he, p3], hw⟩)
        obtain ⟨⟨z0, z1, z2, z3, z4⟩, ⟨z5, z6, z7, z8⟩⟩ := nine_grow T0
        clear B0 T0 h p1
        go_enter Tryz.func93, Tryz.ntmps93
        go_upto_region 1 with fail
        generalize (w.alloc (hpb H (.slice a1 H.row.length c1) (.slice a2 H.roots.length c2) (.slice a3 H.mourned.length c3) (.slice a4 H.seen.length c4))) = X at *
        haveI := ext_any X
        refine region_grow (n := X.heap.size) (by kernel_rfl) (by kernel_rfl) ?_
        repeat (go_big_quiet_step ((first | (go_at_call 115; exact HSZ.out _) | (go_at_call 70; exact HRL.out _) | (go_at_call 116; exact HSD.out _))))
        refine wpQuiet_nil ?_
        intro _ hw'
        obtain ⟨x, rfl⟩ := hw'
        have HBE : Hid _ := HB0.out.trans (x.below.mono HB0.out.size)
        clear z0 z1 z2 z3 z4 z5 z6 z7 z8
        generalize x.to = W at *
        clear x this
        go_wp2
        go_ret
        exact ⟨rfl, HBE.out⟩
      · skip
        skip
        rw [show numB H = inR 0 65535 H.seed by unfold numB; simp [*]]
        have HSZ : Hid (∀ x : Ext (w.alloc (hpb H (.slice a1 H.row.length c1) (.slice a2 H.roots.length c2) (.slice a3 H.mourned.length c3) (.slice a4 H.seen.length c4))).heap.size (w.alloc (hpb H (.slice a1 H.row.length c1) (.slice a2 H.roots.length c2) (.slice a3 H.mourned.length c3) (.slice a4 H.seen.length c4))), Calls Tryz.prog 115 #[.int .i64 H.half, .int .i64 H.old] x.to fun e w'' => e = .returned (.bool true) ∧ ∃ y : Ext (w.alloc (hpb H (.slice a1 H.row.length c1) (.slice a2 H.roots.length c2) (.slice a3 H.mourned.length c3) (.slice a4 H.seen.length c4))).heap.size (w.alloc (hpb H (.slice a1 H.row.length c1) (.slice a2 H.roots.length c2) (.slice a3 H.mourned.length c3) (.slice a4 H.seen.length c4))), w'' = y.to) := fun x => calls_grow (Nat.le_refl _) ((sizesOk_any H.half H.old x.to).mono fun e w' ⟨he, hw⟩ => ⟨by rw [he, p1], by rw [hw]; exact Below.refl _ _⟩)
        have HRL : Hid (∀ x : Ext (w.alloc (hpb H (.slice a1 H.row.length c1) (.slice a2 H.roots.length c2) (.slice a3 H.mourned.length c3) (.slice a4 H.seen.length c4))).heap.size (w.alloc (hpb H (.slice a1 H.row.length c1) (.slice a2 H.roots.length c2) (.slice a3 H.mourned.length c3) (.slice a4 H.seen.length c4))), Calls Tryz.prog 70 #[.int .i64 H.half, .int .i64 H.old] x.to fun e w'' => e = .returned (.int .i64 (2 * H.half + H.old)) ∧ ∃ y : Ext (w.alloc (hpb H (.slice a1 H.row.length c1) (.slice a2 H.roots.length c2) (.slice a3 H.mourned.length c3) (.slice a4 H.seen.length c4))).heap.size (w.alloc (hpb H (.slice a1 H.row.length c1) (.slice a2 H.roots.length c2) (.slice a3 H.mourned.length c3) (.slice a4 H.seen.length c4))), w'' = y.to) := fun x => calls_grow (Nat.le_refl _) ((rowLength_int hb1 hb2 x.to).mono fun e w' ⟨he, hw⟩ => ⟨he, by rw [hw]; exact Below.refl _ _⟩)
        have HSD : Hid (∀ x : Ext (w.alloc (hpb H (.slice a1 H.row.length c1) (.slice a2 H.roots.length c2) (.slice a3 H.mourned.length c3) (.slice a4 H.seen.length c4))).heap.size (w.alloc (hpb H (.slice a1 H.row.length c1) (.slice a2 H.roots.length c2) (.slice a3 H.mourned.length c3) (.slice a4 H.seen.length c4))), Calls Tryz.prog 116 #[hpv H (.slice a1 H.row.length c1) (.slice a2 H.roots.length c2) (.slice a3 H.mourned.length c3) (.slice a4 H.seen.length c4)] x.to fun e w'' => e = .returned (.bool true) ∧ ∃ y : Ext (w.alloc (hpb H (.slice a1 H.row.length c1) (.slice a2 H.roots.length c2) (.slice a3 H.mourned.length c3) (.slice a4 H.seen.length c4))).heap.size (w.alloc (hpb H (.slice a1 H.row.length c1) (.slice a2 H.roots.length c2) (.slice a3 H.mourned.length c3) (.slice a4 H.seen.length c4))), w'' = y.to) := fun x => calls_grow (Nat.le_refl _) ((sideOk_any (hpAt_below h (HB0.out.trans (x.below.mono HB0.out.size)))).mono fun e w' ⟨he, hw⟩ => ⟨by rw [he, p3], hw⟩)
        have HHS : Hid (∀ x : Ext (w.alloc (hpb H (.slice a1 H.row.length c1) (.slice a2 H.roots.length c2) (.slice a3 H.mourned.length c3) (.slice a4 H.seen.length c4))).heap.size (w.alloc (hpb H (.slice a1 H.row.length c1) (.slice a2 H.roots.length c2) (.slice a3 H.mourned.length c3) (.slice a4 H.seen.length c4))), Calls Tryz.prog 117 #[.int .i64 H.seed] x.to fun e w'' => e = .returned (.bool (inR 0 65535 H.seed)) ∧ ∃ y : Ext (w.alloc (hpb H (.slice a1 H.row.length c1) (.slice a2 H.roots.length c2) (.slice a3 H.mourned.length c3) (.slice a4 H.seen.length c4))).heap.size (w.alloc (hpb H (.slice a1 H.row.length c1) (.slice a2 H.roots.length c2) (.slice a3 H.mourned.length c3) (.slice a4 H.seen.length c4))), w'' = y.to) := fun x => calls_grow (Nat.le_refl _) ((hashInRange_any H.seed x.to).mono fun e w' ⟨he, hw⟩ => ⟨he, by rw [hw]; exact Below.refl _ _⟩)
        obtain ⟨⟨z0, z1, z2, z3, z4⟩, ⟨z5, z6, z7, z8⟩⟩ := nine_grow T0
        clear B0 T0 h p1
        generalize inR 0 65535 H.seed = sb at *
        go_enter Tryz.func93, Tryz.ntmps93
        go_upto_region 1 with fail
        generalize (w.alloc (hpb H (.slice a1 H.row.length c1) (.slice a2 H.roots.length c2) (.slice a3 H.mourned.length c3) (.slice a4 H.seen.length c4))) = X at *
        haveI := ext_any X
        refine region_grow (n := X.heap.size) (by kernel_rfl) (by kernel_rfl) ?_
        repeat (go_big_quiet_step ((first | (go_at_call 115; exact HSZ.out _) | (go_at_call 70; exact HRL.out _) | (go_at_call 116; exact HSD.out _) | (go_at_call 117; exact HHS.out _))))
        refine wpQuiet_nil ?_
        intro _ hw'
        obtain ⟨x, rfl⟩ := hw'
        have HBE : Hid _ := HB0.out.trans (x.below.mono HB0.out.size)
        clear z0 z1 z2 z3 z4 z5 z6 z7 z8
        generalize x.to = W at *
        clear x this
        go_wp2
        go_ret
        exact ⟨rfl, HBE.out⟩
end Go.Proofs.YtemlagfaaibenaaGreat.hp
