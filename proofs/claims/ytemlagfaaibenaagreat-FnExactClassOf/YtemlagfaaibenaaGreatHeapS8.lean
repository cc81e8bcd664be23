/-
  Chapter 9 as the specification has it: HeapOk and Young.
  Made from the template HeapS8.
-/
import Derived.Test.YtemlagfaaibenaaGreatHeapS7
import Derived.Test.YtemlagfaaibenaaGreatHeapT
namespace Go.Proofs.YtemlagfaaibenaaGreat.hp
open Go.RowKit rows heads words walks region
set_option maxRecDepth 100000
set_option linter.unusedVariables false
set_option linter.unusedSimpArgs false

theorem right_some {H : Hp} (h : rightB H = true) : ∃ ps, placesR H = some ps := by
  unfold rightB at h
  cases d : placesR H with
  | none => rw [d] at h; cases h
  | some ps => exact ⟨ps, rfl⟩

set_option maxHeartbeats 8000000 in
theorem sHeapOk_any {w : World} {vr vo vm vs : Value} {H : Hp} (h : HpAt w vr vo vm vs H) (hs : hpSize H ≤ 1048576) :
    Calls Tryz.prog 25 #[hpv H vr vo vm vs] w fun e w' => e = .returned (.bool (heapOk H)) ∧ Below w.heap.size w w' := by
  obtain ⟨_, _, _, hsl⟩ := hp_parts hs
  obtain ⟨a1, c1, a2, c2, a3, c3, a4, c4, e1, e2, e3, e4⟩ := hpAt_slices h
  subst e1 e2 e3 e4
  have B0 : Below w.heap.size w (w.alloc (hpb H (.slice a1 H.row.length c1) (.slice a2 H.roots.length c2) (.slice a3 H.mourned.length c3) (.slice a4 H.seen.length c4))) := (Below.refl _ _).alloc (Nat.le_refl _) _
  have T0 := nine_new w H (.slice a1 H.row.length c1) (.slice a2 H.roots.length c2) (.slice a3 H.mourned.length c3) (.slice a4 H.seen.length c4)
  have HT0 : Hid _ := T0
  have HB0 : Hid _ := B0
  have HH0 : Hid (HpAt _ (.slice a1 H.row.length c1) (.slice a2 H.roots.length c2) (.slice a3 H.mourned.length c3) (.slice a4 H.seen.length c4) H) := hpAt_below h B0
  cases dr : rightB H
  · have e : heapOk H = false := by unfold heapOk; rw [dr]; rfl
    rw [e]
    obtain ⟨⟨z0, z1, z2, z3, z4⟩, ⟨z5, z6, z7, z8⟩⟩ := nine_grow T0
    have HWD : Hid (∀ x : Ext (w.alloc (hpb H (.slice a1 H.row.length c1) (.slice a2 H.roots.length c2) (.slice a3 H.mourned.length c3) (.slice a4 H.seen.length c4))).heap.size (w.alloc (hpb H (.slice a1 H.row.length c1) (.slice a2 H.roots.length c2) (.slice a3 H.mourned.length c3) (.slice a4 H.seen.length c4))), Calls Tryz.prog 48 #[hpv H (.slice a1 H.row.length c1) (.slice a2 H.roots.length c2) (.slice a3 H.mourned.length c3) (.slice a4 H.seen.length c4)] x.to fun e w'' => e = .returned (.bool false) ∧ ∃ y : Ext (w.alloc (hpb H (.slice a1 H.row.length c1) (.slice a2 H.roots.length c2) (.slice a3 H.mourned.length c3) (.slice a4 H.seen.length c4))).heap.size (w.alloc (hpb H (.slice a1 H.row.length c1) (.slice a2 H.roots.length c2) (.slice a3 H.mourned.length c3) (.slice a4 H.seen.length c4))), w'' = y.to) := fun x => calls_grow (Nat.le_refl _) (dr ▸ l9Right_any (hpAt_below HH0.out x.below))
    clear B0 T0 h e dr
    go_enter Tryz.func25, Tryz.ntmps25
    go_upto_region 1 with fail
    generalize (w.alloc (hpb H (.slice a1 H.row.length c1) (.slice a2 H.roots.length c2) (.slice a3 H.mourned.length c3) (.slice a4 H.seen.length c4))) = X at *
    haveI := ext_any X
    refine region_grow (n := X.heap.size) (by kernel_rfl) (by kernel_rfl) ?_
    repeat (go_big_quiet_step ((go_at_call 48; exact HWD.out _)))
    refine wpQuiet_nil ?_
    intro _ hw'
    obtain ⟨x, rfl⟩ := hw'
    have HBE : Hid _ := HB0.out.trans (x.below.mono HB0.out.size)
    clear z0 z1 z2 z3 z4 z5 z6 z7 z8 HWD
    generalize x.to = W at *
    clear x this
    go_wp2
    go_ret
    exact ⟨rfl, HBE.out⟩
  · have e : heapOk H = decide (H.seen = seenL H) := by unfold heapOk; rw [dr]; rfl
    rw [e]
    obtain ⟨ps, hps⟩ := right_some dr
    obtain ⟨N, _, r, u, _, hu, _, _⟩ := places_facts hps
    have HR9 : Hid (∀ W, Below (w.alloc (hpb H (.slice a1 H.row.length c1) (.slice a2 H.roots.length c2) (.slice a3 H.mourned.length c3) (.slice a4 H.seen.length c4))).heap.size (w.alloc (hpb H (.slice a1 H.row.length c1) (.slice a2 H.roots.length c2) (.slice a3 H.mourned.length c3) (.slice a4 H.seen.length c4))) W → Calls Tryz.prog 48 #[hpv H (.slice a1 H.row.length c1) (.slice a2 H.roots.length c2) (.slice a3 H.mourned.length c3) (.slice a4 H.seen.length c4)] W fun e w' => e = .returned (.bool true) ∧ Below W.heap.size W w') := fun W hW => dr ▸ l9Right_any (hpAt_below HH0.out hW)
    have HS9 : Hid (∀ W, Below (w.alloc (hpb H (.slice a1 H.row.length c1) (.slice a2 H.roots.length c2) (.slice a3 H.mourned.length c3) (.slice a4 H.seen.length c4))).heap.size (w.alloc (hpb H (.slice a1 H.row.length c1) (.slice a2 H.roots.length c2) (.slice a3 H.mourned.length c3) (.slice a4 H.seen.length c4))) W → Calls Tryz.prog 50 #[hpv H (.slice a1 H.row.length c1) (.slice a2 H.roots.length c2) (.slice a3 H.mourned.length c3) (.slice a4 H.seen.length c4)] W fun e w' => ∃ v', e = .returned v' ∧ rows.Own w' W.heap.size v' (seenL H) ∧ Below W.heap.size W w') := fun W hW => l9Seen_any (hpAt_below HH0.out hW) N hu
    generalize seenL H = S at *
    clear B0 h e dr hps N hu
    go_enter Tryz.func25, Tryz.ntmps25
    go_upto_region 1 with fail
    generalize (w.alloc (hpb H (.slice a1 H.row.length c1) (.slice a2 H.roots.length c2) (.slice a3 H.mourned.length c3) (.slice a4 H.seen.length c4))) = X at *
    obtain ⟨⟨z0, z1, z2, z3, z4⟩, ⟨z5, z6, z7, z8⟩, _⟩ := nine_cells T0
    clear T0
    go_region_law (first
      | (have hh := HR9; clear hh; go_simp; go_at_call 48; refine (HR9.out _ (Below.refl _ _).drew).mono ?_; clear HR9; rintro e w2 ⟨rfl, b2⟩; have b2' : Below X.heap.size X w2 := ⟨b2.os, b2.tape, b2.output, b2.size, b2.block⟩; have HB2 : Hid _ := b2'; clear b2 b2' z0 z1 z2 z3 z4 z5 z6 z7 z8; obtain ⟨⟨z0, z1, z2, z3, z4⟩, ⟨z5, z6, z7, z8⟩, _⟩ := nine_cells (nine_below HT0.out HB2.out))
      | (have hh := HS9; clear hh; go_simp; go_at_call 50; refine (HS9.out _ HB2.out).mono ?_; clear HS9; rintro e w3 ⟨v3, rfl, O3, b3⟩; have HB3 : Hid (Below X.heap.size X w3) := HB2.out.trans (b3.mono HB2.out.size); have HSM : Hid _ := l1Same_any (intsAt_below HH0.out.2.2.2 HB3.out) (own_ints O3) hsl; obtain ⟨sa, sn, sc, rfl⟩ := ints_slice (own_ints O3); clear O3 b3 z0 z1 z2 z3 z4 z5 z6 z7 z8; obtain ⟨⟨z0, z1, z2, z3, z4⟩, ⟨z5, z6, z7, z8⟩, _⟩ := nine_cells (nine_below HT0.out HB3.out))
      | (have hh := HSM; clear hh; go_simp; go_at_call 49; refine Calls.mono HSM.out ?_; clear HSM; rintro e w4 ⟨rfl, q4⟩; have HB4 : Hid (Below w.heap.size w w4) := (HB0.out.trans (HB3.out.mono HB0.out.size)).trans ((bel_of_drewN q4).mono (HB0.out.trans (HB3.out.mono HB0.out.size)).size); clear q4))
    all_goals (go_wp2)
    all_goals go_ret
    all_goals exact ⟨rfl, HB4.out⟩

/-- Is the word young, of a heap that is right? -/
def youngOk (H : Hp) (x : Int) : Bool := heapOk H && youngB H x
theorem ok_nums {H : Hp} (h : heapOk H = true) : Nums H := by
  unfold heapOk at h
  rw [Bool.and_eq_true] at h
  obtain ⟨ps, hps⟩ := right_some h.1
  exact (places_facts hps).1
end Go.Proofs.YtemlagfaaibenaaGreat.hp
