/-
  Chapter 12 as the program has it: what must be seen.
  Made from the template SeenI.
-/
import Derived.Test.YthgjnnhmcihinaaM5
import Derived.Test.YthgjnnhmcihinaaSeenS
namespace Go.Proofs.Ythgjnnhmcihinaa.hp
open Go.RowKit rows heads words walks
set_option maxRecDepth 100000
set_option linter.unusedVariables false
set_option linter.unusedSimpArgs false

theorem pds_nothing (w : World) : PdsAt w (.slice none 0 0) [] := ⟨none, 0, rfl, by simp, by decide, fun _ => rfl, fun h => by simp at h⟩
theorem slotsP_nothing (w : World) (sl : Pd → List Int) : SlotsP w [] sl where
  call V hV i hi := absurd hi (by simp)
  len i hi := absurd hi (by simp)
  num i hi := absurd hi (by simp)
set_option maxHeartbeats 8000000 in
theorem implSeenOf {H : Hp} (hI : HpI H) (w : World) (vr vo vm vs : Value) (h : HpAt w vr vo vm vs H) (hs : hpSize H ≤ 1048576) :
    Calls Try.prog 7 #[hpv H vr vo vm vs] w fun e w' => ∃ u, e = .returned u ∧ rows.Own w' w.heap.size u (seenOk H) ∧ Below w.heap.size w w' := by
  obtain ⟨a1, c1, a2, c2, a3, c3, a4, c4, e1, e2, e3, e4⟩ := hpAt_slices h
  subst e1 e2 e3 e4
  obtain ⟨B0, q0, hX⟩ := hp_all h
  obtain ⟨z0, z1, z2, z3, z4, z5, z6, z7, z8⟩ := hpb_cells q0
  have OX := openedButSeen_any hX hs hI
  have HB0 : Hid _ := B0
  have HH0 : Hid _ := hX
  have HII : Hid _ := hI
  clear h hs hI B0 q0 hX
  unfold seenOk
  cases hh : openB a1 H
  · have R0 := OX.mono (fun e w' (g : _ ∧ _ ∧ _) => (⟨g.1 hh, g.2.2⟩ : e = .returned (.tuple #[hov0, .bool false]) ∧ Below _ _ w'))
    rw [openB_is] at hh
    rw [hh, if_neg (by decide)]
    clear OX hh
    go_enter Try.func7, Try.ntmps7
    go_upto_region 2 with (go_at_call 17; refine R0.mono ?_; clear R0 z0 z1 z2 z3 z4 z5 z6 z7 z8; rintro e w1 ⟨rfl, b1⟩; have HB1 : Hid _ := HB0.out.trans (b1.mono HB0.out.size); clear b1)
    have HB2 : Hid _ := HB1.out.alloc HB1.out.size (hob hz s0 s0 s0 s0 0 s0)
    obtain ⟨⟨m0, m1, m2, m3, m4, m5, m6, m7, m8, m9, m10⟩, _⟩ := hob_cells (heap_alloc_new w1 (hob hz s0 s0 s0 s0 0 s0))
    generalize w1.alloc (hob hz s0 s0 s0 s0 0 s0) = Y at *
    have PL := mustSee_any (up := 0) (sl := fun _ => []) (pds_nothing Y) (fun d hd => by simp at hd) (by simp) (slotsP_nothing Y _)
    rw [show mustL 0 (fun _ => []) ([] : List Pd) = [] from rfl] at PL
    go_wp2_with (go_at_call 18; refine PL.mono ?_; clear PL; rintro e w3 ⟨v3, rfl, O3, b3⟩; have HO3 : Hid _ := own_base O3 HB2.out.size; have HB3 : Hid _ := HB2.out.trans (b3.mono HB2.out.size); obtain ⟨oa, on, oc, rfl⟩ := ints_slice (own_ints O3); clear O3 b3)
    go_ret
    exact ⟨_, rfl, HO3.out, HB3.out⟩
  · have R0 := OX.mono (fun e w' (g : _ ∧ _ ∧ _) => (⟨g.2.1 hh, g.2.2⟩ : (∃ a5 c5, e = .returned (.tuple #[hov H (.slice a1 H.row.length c1) (.slice a2 H.roots.length c2) (.slice a3 H.mourned.length c3) (.slice a4 H.seen.length c4) (2 * H.half) (.slice a5 (objsP a1 H).length c5), .bool true]) ∧ OwnP w' _ (.slice a5 (objsP a1 H).length c5) (objsP a1 H)) ∧ Below _ _ w'))
    obtain ⟨hn, hro, _⟩ := openB_parts hh
    have hrt := hh
    rw [openB_is] at hrt
    rw [hrt, if_pos rfl, ← seen_same hn hro]
    have HPA : Hid (∀ V a5 c5, Below (w.alloc (hpb H (.slice a1 H.row.length c1) (.slice a2 H.roots.length c2) (.slice a3 H.mourned.length c3) (.slice a4 H.seen.length c4))).heap.size (w.alloc (hpb H (.slice a1 H.row.length c1) (.slice a2 H.roots.length c2) (.slice a3 H.mourned.length c3) (.slice a4 H.seen.length c4))) V → PdsAt V (.slice a5 (objsP a1 H).length c5) (objsP a1 H) → Calls Try.prog 18 #[rmv (2 * H.half) (.slice a5 (objsP a1 H).length c5)] V fun e w' => ∃ u, e = .returned u ∧ rows.Own w' V.heap.size u (mustL (2 * H.half) (slP H.row) (objsP a1 H)) ∧ Below V.heap.size V w') := fun V a5 c5 hV p => by
      have r := roomsAt_of (hpAt_below HH0.out hV).1 hn hro HII.out.2.1 p
      exact mustSee_any r.pds r.slices (Nat.le_trans r.len (by decide)) r.slots
    clear OX hh hrt hn hro
    go_enter Try.func7, Try.ntmps7
    go_upto_region 2 with (go_at_call 17; refine R0.mono ?_; clear R0 z0 z1 z2 z3 z4 z5 z6 z7 z8; rintro e w1 ⟨⟨a5, c5, rfl, O1⟩, b1⟩; have HB1 : Hid _ := HB0.out.trans (b1.mono HB0.out.size); have HBX : Hid _ := b1; have HO1 : Hid _ := ownP_at O1; clear b1 O1)
    have B2 : Below w1.heap.size w1 (w1.alloc (hob H (.slice a1 H.row.length c1) (.slice a2 H.roots.length c2) (.slice a3 H.mourned.length c3) (.slice a4 H.seen.length c4) (2 * H.half) (.slice a5 (objsP a1 H).length c5))) := (Below.refl _ _).alloc (Nat.le_refl _) _
    have HB2 : Hid _ := HB1.out.trans (B2.mono HB1.out.size)
    have PL := HPA.out _ a5 c5 (HBX.out.trans (B2.mono HBX.out.size)) (pdsAt_below HO1.out B2)
    obtain ⟨⟨m0, m1, m2, m3, m4, m5, m6, m7, m8, m9, m10⟩, _⟩ := hob_cells (heap_alloc_new w1 (hob H (.slice a1 H.row.length c1) (.slice a2 H.roots.length c2) (.slice a3 H.mourned.length c3) (.slice a4 H.seen.length c4) (2 * H.half) (.slice a5 (objsP a1 H).length c5)))
    clear B2 HO1 HPA HBX
    generalize w1.alloc (hob H (.slice a1 H.row.length c1) (.slice a2 H.roots.length c2) (.slice a3 H.mourned.length c3) (.slice a4 H.seen.length c4) (2 * H.half) (.slice a5 (objsP a1 H).length c5)) = Y at *
    go_wp2_with (go_at_call 18; refine PL.mono ?_; clear PL; rintro e w3 ⟨v3, rfl, O3, b3⟩; have HO3 : Hid _ := own_base O3 HB2.out.size; have HB3 : Hid _ := HB2.out.trans (b3.mono HB2.out.size); obtain ⟨oa, on, oc, rfl⟩ := ints_slice (own_ints O3); clear O3 b3)
    go_ret
    exact ⟨_, rfl, HO3.out, HB3.out⟩
end Go.Proofs.Ythgjnnhmcihinaa.hp
