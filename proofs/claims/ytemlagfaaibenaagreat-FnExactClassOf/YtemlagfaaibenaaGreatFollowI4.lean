/-
  Chapter 10 as the program has it: HashOf and ClassOf.
  Made from the template FollowI4.
-/
import Derived.Test.YtemlagfaaibenaaGreatFollowI3
import Derived.Test.YtemlagfaaibenaaGreatFollowS2
import Derived.Deep.RegionLaw
namespace Go.Proofs.YtemlagfaaibenaaGreat.hp
open Go.RowKit rows heads words walks
set_option maxRecDepth 100000
set_option linter.unusedVariables false
set_option linter.unusedSimpArgs false

set_option maxHeartbeats 8000000 in
theorem implHashOf {H : Hp} (hI : HpI H) (r : Int) (w : World) (vr vo vm vs : Value) (h : HpAt w vr vo vm vs H) (hs : hpSize H ≤ 1048576) :
    Calls Tryz.prog 10 #[hpv H vr vo vm vs, .int .i64 r] w fun e w' => e = .returned (.int .i64 (hashOk H r)) ∧ Below w.heap.size w w' := by
  obtain ⟨a1, c1, a2, c2, a3, c3, a4, c4, e1, e2, e3, e4⟩ := hpAt_slices h
  subst e1 e2 e3 e4
  obtain ⟨B0, q0, hX⟩ := hp_all h
  obtain ⟨z0, z1, z2, z3, z4, z5, z6, z7, z8⟩ := hpb_cells q0
  have RO := rootObject_any hX hs hI r
  have HB0 : Hid _ := B0
  clear h hs hI B0 q0 hX
  unfold hashOk
  cases dr : rootOk H r
  · have R0 := RO.mono (fun e w' (g : _ ∧ _ ∧ _) => (⟨g.1 dr, g.2.2⟩ : e = .returned (.tuple #[pdv pdD, .bool false]) ∧ Below _ _ w'))
    rw [if_neg (by decide)]
    clear RO dr
    go_enter Tryz.func10, Tryz.ntmps10
    go_wp2_with (go_at_call 23; refine R0.mono ?_; clear R0 z0 z1 z2 z3 z4 z5 z6 z7 z8; rintro e w1 ⟨rfl, b1⟩; have HB1 : Hid _ := HB0.out.trans (b1.mono HB0.out.size); clear b1)
    go_ret
    exact ⟨rfl, HB1.out.alloc HB1.out.size _⟩
  · have R0 := RO.mono (fun e w' (g : _ ∧ _ ∧ _) => (⟨g.2.1 dr, g.2.2⟩ : (∃ d, isHd (rootX H r) d ∧ e = .returned (.tuple #[pdv d, .bool true])) ∧ Below _ _ w'))
    rw [if_pos rfl]
    clear RO dr
    go_enter Tryz.func10, Tryz.ntmps10
    go_upto_region 2 with (go_at_call 23; refine R0.mono ?_; clear R0 z0 z1 z2 z3 z4 z5 z6 z7 z8; rintro e w1 ⟨⟨d, hd, rfl⟩, b1⟩; have HB1 : Hid _ := HB0.out.trans (b1.mono HB0.out.size); have HHd : Hid _ := hd; obtain ⟨ds', df, dc, dh, dp, dm, du, dl⟩ := d; obtain ⟨q1, q2, q3, q4, sa, sn, sc, hsv⟩ := hd; clear q1 q2 q3 q4; simp only at hsv; subst hsv; clear b1)
    obtain ⟨⟨p0, p1, p2, p3, p4, p5, p6, p7⟩, _⟩ := pdb_cells (heap_alloc_new w1 (pdb ⟨ds', df, dc, dh, dp, dm, .slice sa sn sc, dl⟩))
    simp only at p0 p1 p2 p3 p4 p5 p6 p7
    have HB2 : Hid _ := HB1.out.alloc HB1.out.size (pdb ⟨ds', df, dc, dh, dp, dm, .slice sa sn sc, dl⟩)
    generalize w1.alloc (pdb ⟨ds', df, dc, dh, dp, dm, .slice sa sn sc, dl⟩) = Y at *
    have HV : Hid (uH (rootX H r) = dh) := HHd.out.2.2.2.1.symm
    clear HHd
    go_wp2
    go_ret
    exact ⟨by rw [HV.out]; rfl, HB2.out⟩
set_option maxHeartbeats 8000000 in
theorem implClassOf {H : Hp} (hI : HpI H) (r : Int) (w : World) (vr vo vm vs : Value) (h : HpAt w vr vo vm vs H) (hs : hpSize H ≤ 1048576) :
    Calls Tryz.prog 13 #[hpv H vr vo vm vs, .int .i64 r] w fun e w' => e = .returned (.int .i64 (classOk H r)) ∧ Below w.heap.size w w' := by
  obtain ⟨a1, c1, a2, c2, a3, c3, a4, c4, e1, e2, e3, e4⟩ := hpAt_slices h
  subst e1 e2 e3 e4
  obtain ⟨B0, q0, hX⟩ := hp_all h
  obtain ⟨z0, z1, z2, z3, z4, z5, z6, z7, z8⟩ := hpb_cells q0
  have RO := rootObject_any hX hs hI r
  have HB0 : Hid _ := B0
  clear h hs hI B0 q0 hX
  unfold classOk
  cases dr : rootOk H r
  · have R0 := RO.mono (fun e w' (g : _ ∧ _ ∧ _) => (⟨g.1 dr, g.2.2⟩ : e = .returned (.tuple #[pdv pdD, .bool false]) ∧ Below _ _ w'))
    rw [if_neg (by decide)]
    clear RO dr
    go_enter Tryz.func13, Tryz.ntmps13
    go_wp2_with (go_at_call 23; refine R0.mono ?_; clear R0 z0 z1 z2 z3 z4 z5 z6 z7 z8; rintro e w1 ⟨rfl, b1⟩; have HB1 : Hid _ := HB0.out.trans (b1.mono HB0.out.size); clear b1)
    go_ret
    exact ⟨rfl, HB1.out.alloc HB1.out.size _⟩
  · have R0 := RO.mono (fun e w' (g : _ ∧ _ ∧ _) => (⟨g.2.1 dr, g.2.2⟩ : (∃ d, isHd (rootX H r) d ∧ e = .returned (.tuple #[pdv d, .bool true])) ∧ Below _ _ w'))
    rw [if_pos rfl]
    clear RO dr
    go_enter Tryz.func13, Tryz.ntmps13
    go_upto_region 2 with (go_at_call 23; refine R0.mono ?_; clear R0 z0 z1 z2 z3 z4 z5 z6 z7 z8; rintro e w1 ⟨⟨d, hd, rfl⟩, b1⟩; have HB1 : Hid _ := HB0.out.trans (b1.mono HB0.out.size); have HHd : Hid _ := hd; obtain ⟨ds', df, dc, dh, dp, dm, du, dl⟩ := d; obtain ⟨q1, q2, q3, q4, sa, sn, sc, hsv⟩ := hd; clear q1 q2 q3 q4; simp only at hsv; subst hsv; clear b1)
    obtain ⟨⟨p0, p1, p2, p3, p4, p5, p6, p7⟩, _⟩ := pdb_cells (heap_alloc_new w1 (pdb ⟨ds', df, dc, dh, dp, dm, .slice sa sn sc, dl⟩))
    simp only at p0 p1 p2 p3 p4 p5 p6 p7
    have HB2 : Hid _ := HB1.out.alloc HB1.out.size (pdb ⟨ds', df, dc, dh, dp, dm, .slice sa sn sc, dl⟩)
    generalize w1.alloc (pdb ⟨ds', df, dc, dh, dp, dm, .slice sa sn sc, dl⟩) = Y at *
    have HV : Hid (uC (rootX H r) = dc) := HHd.out.2.2.1.symm
    clear HHd
    go_wp2
    go_ret
    exact ⟨by rw [HV.out]; rfl, HB2.out⟩
end Go.Proofs.YtemlagfaaibenaaGreat.hp
