/-
  Chapter 12 as the specification has it: what must be seen.
  Made from the template SeenS.
-/
import Derived.Test.YthgjnnhmcihinaaM5
namespace Go.Proofs.Ythgjnnhmcihinaa.hp
open Go.RowKit rows heads words walks region
set_option maxRecDepth 100000
set_option linter.unusedVariables false
set_option linter.unusedSimpArgs false

/-- What SeenOf tells. -/
def seenOk (H : Hp) : List Int := if rightB H = true then seenL H else []
theorem upW_len {H : Hp} {ps : List Int} (h : placesR H = some ps) : (seenL H).length ≤ 1048576 := by
  obtain ⟨N, _, r, u, hr, hu, _, rfl⟩ := places_facts h
  have hl := (places_plc h).2
  rw [seenL_eq, hu, Option.getD_some]
  refine Nat.le_trans (List.length_filter_le _ _) ?_
  rw [List.length_append] at hl
  omega
theorem seenOk_len (H : Hp) : (seenOk H).length ≤ 1048576 := by
  unfold seenOk
  split
  · rename_i h
    obtain ⟨ps, hps⟩ := right_some h
    exact upW_len hps
  · simp
set_option maxHeartbeats 8000000 in
theorem sSeenOf_any {w : World} {vr vo vm vs : Value} {H : Hp} (h : HpAt w vr vo vm vs H) (hs : hpSize H ≤ 1048576) :
    Calls Try.prog 5 #[hpv H vr vo vm vs] w fun e w' => ∃ v', e = .returned v' ∧ rows.Own w' w.heap.size v' (seenOk H) ∧ Below w.heap.size w w' := by
  obtain ⟨a1, c1, a2, c2, a3, c3, a4, c4, e1, e2, e3, e4⟩ := hpAt_slices h
  subst e1 e2 e3 e4
  have B0 : Below w.heap.size w (w.alloc (hpb H (.slice a1 H.row.length c1) (.slice a2 H.roots.length c2) (.slice a3 H.mourned.length c3) (.slice a4 H.seen.length c4))) := (Below.refl _ _).alloc (Nat.le_refl _) _
  have T0 := nine_new w H (.slice a1 H.row.length c1) (.slice a2 H.roots.length c2) (.slice a3 H.mourned.length c3) (.slice a4 H.seen.length c4)
  have HT0 : Hid _ := T0
  have HB0 : Hid _ := B0
  have HH0 : Hid (HpAt _ (.slice a1 H.row.length c1) (.slice a2 H.roots.length c2) (.slice a3 H.mourned.length c3) (.slice a4 H.seen.length c4) H) := hpAt_below h B0
  obtain ⟨⟨z0, z1, z2, z3, z4⟩, ⟨z5, z6, z7, z8⟩, _⟩ := nine_cells T0
  have HK := l9Right_any HH0.out
  unfold seenOk
  cases dr : rightB H
  · rw [dr] at HK
    rw [if_neg (by decide)]
    clear B0 T0 h dr
    go_enter Try.func5, Try.ntmps5
    go_wp2_with (go_at_call 14; refine HK.mono ?_; clear HK; rintro e w2 ⟨rfl, b2⟩; have HBE : Hid _ := HB0.out.trans (b2.mono HB0.out.size); clear b2)
    go_ret
    exact ⟨_, rfl, own_nothing w2 _ HBE.out.size, HBE.out.alloc HBE.out.size _⟩
  · rw [dr] at HK
    rw [if_pos rfl]
    obtain ⟨ps, hps⟩ := right_some dr
    obtain ⟨N, _, r, u, _, hu, _, _⟩ := places_facts hps
    have HOB : Hid (∀ V, HpAt V (.slice a1 H.row.length c1) (.slice a2 H.roots.length c2) (.slice a3 H.mourned.length c3) (.slice a4 H.seen.length c4) H → Calls Try.prog 15 #[hpv H (.slice a1 H.row.length c1) (.slice a2 H.roots.length c2) (.slice a3 H.mourned.length c3) (.slice a4 H.seen.length c4)] V fun e w' => ∃ v', e = .returned v' ∧ rows.Own w' V.heap.size v' (seenL H) ∧ Below V.heap.size V w') := fun V hV => l9Seen_any hV N hu
    clear B0 T0 h dr hps N hu
    go_enter Try.func5, Try.ntmps5
    go_wp2_with (first
      | (go_at_call 14; refine HK.mono ?_; clear HK z0 z1 z2 z3 z4 z5 z6 z7 z8; rintro e w2 ⟨rfl, b2⟩; have HB2 : Hid _ := HB0.out.trans (b2.mono HB0.out.size); obtain ⟨⟨z0, z1, z2, z3, z4⟩, ⟨z5, z6, z7, z8⟩, _⟩ := nine_cells (nine_below HT0.out b2); have OB := HOB.out w2 (hpAt_below HH0.out b2); clear b2 HOB)
      | (go_at_call 15; refine OB.mono ?_; clear OB; rintro e w3 ⟨v3, rfl, O3, b3⟩; have HO3 : Hid _ := own_base O3 HB2.out.size; have HB3 : Hid _ := HB2.out.trans (b3.mono HB2.out.size); obtain ⟨oa, on, oc, rfl⟩ := ints_slice (own_ints O3); clear O3 b3))
    go_ret
    exact ⟨_, rfl, HO3.out, HB3.out⟩
end Go.Proofs.Ythgjnnhmcihinaa.hp
