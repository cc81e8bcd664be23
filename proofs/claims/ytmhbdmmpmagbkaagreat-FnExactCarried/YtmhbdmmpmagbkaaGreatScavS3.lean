/-
  Chapter 11 as the specification has it: Scavenged and Carried.
  Made from the template ScavS3.
-/
import Derived.Test.YtmhbdmmpmagbkaaGreatScavS2
import Derived.Test.YtmhbdmmpmagbkaaGreatStrSp
namespace Go.Proofs.YtmhbdmmpmagbkaaGreat.hp
open Go.RowKit rows heads words walks
set_option maxRecDepth 100000
set_option linter.unusedVariables false
set_option linter.unusedSimpArgs false

/-- What Scavenged answers. -/
def scavOk (H : Hp) : Hp := if heapOk H = true then scavF H ((placesR H).getD []) else hp0
/-- What Carried answers. -/
def carOk (H : Hp) : Int := if heapOk H = true then ((scE H ((placesR H).getD [])).top : Int) else -1
theorem scavOk_size {H : Hp} (hs : hpSize H ≤ 1048576) : hpSize (scavOk H) ≤ 1048576 := by
  unfold scavOk
  split
  · rename_i h
    obtain ⟨ps, R⟩ := rt_of (ok_right h).1
    rw [R.some', Option.getD_some]
    obtain ⟨ps', hp', hup, hN, hnb⟩ := scav_right R
    obtain ⟨_, _, r, u, _, hu, _, e⟩ := places_facts hp'
    have hl := (places_plc hp').2
    rw [e, List.length_append] at hl
    have hsn : (seenL (scavH H ps)).length ≤ 500 := by
      unfold seenL
      rw [hu, Option.getD_some]
      exact Nat.le_trans (List.length_filter_le _ _) (by omega)
    have h1 := hN.len
    have h2 := hN.half1
    have h3 := hN.old1
    have h4 := hN.roots
    have h5 := hN.mourned
    show (scavH H ps).row.length + (scavH H ps).roots.length + (scavH H ps).mourned.length + (seenL (scavH H ps)).length ≤ _
    omega
  · exact Nat.zero_le _
set_option maxHeartbeats 16000000 in
theorem sScavenged_any {w : World} {vr vo vm vs : Value} {H : Hp} (h : HpAt w vr vo vm vs H) (hs : hpSize H ≤ 1048576) :
    Calls Tryz.prog 18 #[hpv H vr vo vm vs] w fun e w' => ∃ (o' r' m' s' : Value), e = .returned (hpv (scavOk H) o' r' m' s') ∧ OwnH w' w.heap.size o' r' m' s' (scavOk H) ∧ Below w.heap.size w w' := by
  obtain ⟨a1, c1, a2, c2, a3, c3, a4, c4, e1, e2, e3, e4⟩ := hpAt_slices h
  subst e1 e2 e3 e4
  have B0 : Below w.heap.size w (w.alloc (hpb H (.slice a1 H.row.length c1) (.slice a2 H.roots.length c2) (.slice a3 H.mourned.length c3) (.slice a4 H.seen.length c4))) := (Below.refl _ _).alloc (Nat.le_refl _) _
  have B1 := B0.alloc B0.size (hpb ⟨0, 0, [], 0, 0, [], [], [], 0⟩ (.slice none 0 0) (.slice none 0 0) (.slice none 0 0) (.slice none 0 0))
  have T0 := nine_new w H (.slice a1 H.row.length c1) (.slice a2 H.roots.length c2) (.slice a3 H.mourned.length c3) (.slice a4 H.seen.length c4)
  have T0' := nine_below T0 ((Below.refl _ _).alloc (Nat.le_refl _) (hpb ⟨0, 0, [], 0, 0, [], [], [], 0⟩ (.slice none 0 0) (.slice none 0 0) (.slice none 0 0) (.slice none 0 0)))
  have T1 : Nine ((w.alloc (hpb H (.slice a1 H.row.length c1) (.slice a2 H.roots.length c2) (.slice a3 H.mourned.length c3) (.slice a4 H.seen.length c4))).alloc (hpb ⟨0, 0, [], 0, 0, [], [], [], 0⟩ (.slice none 0 0) (.slice none 0 0) (.slice none 0 0) (.slice none 0 0))) (w.heap.size + 1) 31 (.int .i64 0) (.int .i64 0) (.slice none 0 0) (.int .i64 0) (.int .i64 0) (.slice none 0 0) (.slice none 0 0) (.slice none 0 0) (.int .i64 0) := (congrArg (fun k => ((w.alloc (hpb H (.slice a1 H.row.length c1) (.slice a2 H.roots.length c2) (.slice a3 H.mourned.length c3) (.slice a4 H.seen.length c4))).alloc (hpb ⟨0, 0, [], 0, 0, [], [], [], 0⟩ (.slice none 0 0) (.slice none 0 0) (.slice none 0 0) (.slice none 0 0))).heap[k]?) (show w.heap.size + 1 = (w.alloc (hpb H (.slice a1 H.row.length c1) (.slice a2 H.roots.length c2) (.slice a3 H.mourned.length c3) (.slice a4 H.seen.length c4))).heap.size by simp)).trans (heap_alloc_new _ _)
  have sX : w.heap.size + 2 = ((w.alloc (hpb H (.slice a1 H.row.length c1) (.slice a2 H.roots.length c2) (.slice a3 H.mourned.length c3) (.slice a4 H.seen.length c4))).alloc (hpb ⟨0, 0, [], 0, 0, [], [], [], 0⟩ (.slice none 0 0) (.slice none 0 0) (.slice none 0 0) (.slice none 0 0))).heap.size := by simp
  have HHX := hpAt_below h B1
  have HB1 : Hid _ := B1
  have HT0 : Hid _ := T0'
  have HT1 : Hid _ := T1
  have HSZ : Hid _ := hs
  obtain ⟨R, hR⟩ : ∃ R, scavOk H = R := ⟨_, rfl⟩
  rw [hR]
  have HR : Hid _ := hR
  clear h B0 B1 T0 T0' T1 hR
  go_enter Tryz.func18, Tryz.ntmps18
  go_upto_region 1 with fail
  generalize hX : (w.alloc _).alloc _ = X at *
  have HsX : Hid _ := sX
  clear hX sX
  have HK := sHeapOk_any HHX hs
  have HH : Hid _ := HHX
  clear HHX hs
  obtain ⟨⟨z0, z1, z2, z3, z4⟩, ⟨z5, z6, z7, z8⟩, _⟩ := nine_cells HT0.out
  cases dr : heapOk H
  · rw [dr] at HK
    have e : scavOk H = hp0 := by unfold scavOk; rw [if_neg (by rw [dr]; decide)]
    obtain rfl : hp0 = R := e.symm.trans HR.out
    clear dr e HR
    go_upto_region 2 with (go_at_call 33; refine HK.mono ?_; clear HK z0 z1 z2 z3 z4 z5 z6 z7 z8; rintro e w2 ⟨rfl, b2⟩; have HBE : Hid _ := HB1.out.trans (b2.mono HB1.out.size); have HN1 : Hid _ := nine_below HT1.out b2; clear b2)
    obtain ⟨⟨y0, y1, y2, y3, y4⟩, ⟨y5, y6, y7, y8⟩, yf⟩ := nine_cells HN1.out
    have f0 := yf 0
    have f1 := yf 1
    have f2 := yf 2
    have f3 := yf 3
    have f4 := yf 4
    have f5 := yf 5
    have f6 := yf 6
    have f7 := yf 7
    have f8 := yf 8
    clear yf
    go_wp2_with fail
    exact bodyPost_ret (res_heap rfl rfl (nine_sets HN1.out _ _ _ _ _ _ _ _ _)) rfl ⟨_, _, _, _, rfl, own0 _ _, nine_belows HBE.out (by omega) _ _ _ _ _ _ _ _ _⟩
  · rw [dr] at HK
    obtain ⟨ps, RR⟩ := rt_of (ok_right dr).1
    have e : scavOk H = scavF H ps := by unfold scavOk; rw [if_pos dr, RR.some', Option.getD_some]
    obtain rfl : scavF H ps = R := e.symm.trans HR.out
    have HSC : Hid (∀ V, HpAt V (.slice a1 H.row.length c1) (.slice a2 H.roots.length c2) (.slice a3 H.mourned.length c3) (.slice a4 H.seen.length c4) H → _) := fun V hV => l11Scavenged_any hV HSZ.out (ok_right dr).2 RR
    clear dr e RR HR
    go_upto_region 3 with (go_at_call 33; refine HK.mono ?_; clear HK z0 z1 z2 z3 z4 z5 z6 z7 z8; rintro e w2 ⟨rfl, b2⟩; have HB2 : Hid _ := HB1.out.trans (b2.mono HB1.out.size); have HX2 : Hid _ := b2.size; obtain ⟨⟨z0, z1, z2, z3, z4⟩, ⟨z5, z6, z7, z8⟩, _⟩ := nine_cells (nine_below HT0.out b2); have HN1 : Hid _ := nine_below HT1.out b2; have SC := HSC.out w2 (hpAt_below HH.out b2); clear b2 HSC)
    go_wp2_with (go_at_call 45; refine SC.mono ?_; clear SC z0 z1 z2 z3 z4 z5 z6 z7 z8; rintro e w3 ⟨o', r', m', s', rfl, O3, b3⟩; obtain ⟨b1', d1, b2', d2, b3', d3, b4', d4, e1, e2, e3, e4⟩ := hpAt_slices (ownH_at O3); subst e1 e2 e3 e4; have HO3 : Hid _ := O3; have HB3 : Hid _ := HB2.out.trans (b3.mono HB2.out.size); have HN3 : Hid _ := nine_below HN1.out b3; obtain ⟨⟨y0, y1, y2, y3, y4⟩, ⟨y5, y6, y7, y8⟩, yf⟩ := nine_cells (nine_below HN1.out b3); have f0 := yf 0; have f1 := yf 1; have f2 := yf 2; have f3 := yf 3; have f4 := yf 4; have f5 := yf 5; have f6 := yf 6; have f7 := yf 7; have f8 := yf 8; clear yf O3 b3)
    have hx4 : w.heap.size + 2 ≤ w2.heap.size := by have := HX2.out; have := HsX.out; omega
    refine bodyPost_ret (res_heap rfl rfl (nine_sets HN3.out _ _ _ _ _ _ _ _ _)) rfl ⟨_, _, _, _, rfl, ?_, nine_belows HB3.out (by omega) _ _ _ _ _ _ _ _ _⟩
    have H5 := HO3.out
    have on : ∀ {v : Value} {xs : List Int}, rows.Own w3 w2.heap.size v xs → ∀ {W : World}, Ch [w.heap.size + 1] w3 W → rows.Own W w.heap.size v xs := fun {v xs} ho {W} hc => own_base (row_ch ho hc (fun j hj => by have := (blk_lt ho j hj).1; simp; omega)) (by omega)
    exact ⟨⟨on H5.1.1 (nine_other _ _ _ _ _ _ _ _ _), on H5.1.2.1 (nine_other _ _ _ _ _ _ _ _ _), on H5.1.2.2.1 (nine_other _ _ _ _ _ _ _ _ _), on H5.1.2.2.2 (nine_other _ _ _ _ _ _ _ _ _)⟩, H5.2⟩
set_option maxHeartbeats 8000000 in
theorem sCarried_any {w : World} {vr vo vm vs : Value} {H : Hp} (h : HpAt w vr vo vm vs H) (hs : hpSize H ≤ 1048576) :
    Calls Tryz.prog 21 #[hpv H vr vo vm vs] w fun e w' => e = .returned (.int .i64 (carOk H)) ∧ Below w.heap.size w w' := by
  obtain ⟨a1, c1, a2, c2, a3, c3, a4, c4, e1, e2, e3, e4⟩ := hpAt_slices h
  subst e1 e2 e3 e4
  have B0 : Below w.heap.size w (w.alloc (hpb H (.slice a1 H.row.length c1) (.slice a2 H.roots.length c2) (.slice a3 H.mourned.length c3) (.slice a4 H.seen.length c4))) := (Below.refl _ _).alloc (Nat.le_refl _) _
  have HT0 : Hid _ := nine_new w H (.slice a1 H.row.length c1) (.slice a2 H.roots.length c2) (.slice a3 H.mourned.length c3) (.slice a4 H.seen.length c4)
  have HK := sHeapOk_any (hpAt_below h B0) hs
  have HH : Hid _ := hpAt_below h B0
  have HB0 : Hid _ := B0
  obtain ⟨A, hA⟩ : ∃ A, carOk H = A := ⟨_, rfl⟩
  rw [hA]
  obtain ⟨⟨z0, z1, z2, z3, z4⟩, ⟨z5, z6, z7, z8⟩, _⟩ := nine_cells HT0.out
  clear h B0
  cases dr : heapOk H
  · rw [dr] at HK
    have HE : Hid (A = -1) := by show _ = _; rw [← hA]; unfold carOk; rw [if_neg (by rw [dr]; decide)]
    clear dr hA hs
    go_enter Tryz.func21, Tryz.ntmps21
    go_wp2_with (go_at_call 33; refine HK.mono ?_; clear HK; rintro e w2 ⟨rfl, b2⟩; have HBE : Hid _ := HB0.out.trans (b2.mono HB0.out.size); clear b2)
    go_ret
    exact ⟨by rw [HE.out]; rfl, HBE.out⟩
  · rw [dr] at HK
    obtain ⟨ps, RR⟩ := rt_of (ok_right dr).1
    have HE : Hid (A = ((scE H ps).top : Int)) := by show _ = _; rw [← hA]; unfold carOk; rw [if_pos dr, RR.some', Option.getD_some]
    have HSC : Hid (∀ V, HpAt V (.slice a1 H.row.length c1) (.slice a2 H.roots.length c2) (.slice a3 H.mourned.length c3) (.slice a4 H.seen.length c4) H → _) := fun V hV => l11Scavenged_any hV hs (ok_right dr).2 RR
    have HTP : Hid ((scavF H ps).top = ((scE H ps).top : Int)) := rfl
    clear dr RR hA hs
    obtain ⟨RES, hRES⟩ : ∃ RES, scavF H ps = RES := ⟨_, rfl⟩
    simp only [hRES] at HSC HTP
    clear hRES
    go_enter Tryz.func21, Tryz.ntmps21
    go_wp2_with (first
      | (go_at_call 33; refine HK.mono ?_; clear HK z0 z1 z2 z3 z4 z5 z6 z7 z8; rintro e w2 ⟨rfl, b2⟩; have HB2 : Hid _ := HB0.out.trans (b2.mono HB0.out.size); obtain ⟨⟨z0, z1, z2, z3, z4⟩, ⟨z5, z6, z7, z8⟩, _⟩ := nine_cells (nine_below HT0.out b2); have SC := HSC.out w2 (hpAt_below HH.out b2); clear b2 HSC)
      | (go_at_call 45; refine SC.mono ?_; clear SC z0 z1 z2 z3 z4 z5 z6 z7 z8; rintro e w3 ⟨o', r', m', s', rfl, O3, b3⟩; have HB3 : Hid _ := HB2.out.trans (b3.mono HB2.out.size); have fld : (Instr.field 31 (hpv RES o' r' m' s') 4).run Tryz.prog w3 = .ok (.int .i64 RES.top) w3 := rfl; clear O3 b3))
    go_ret
    exact ⟨by rw [HE.out, ← HTP.out]; rfl, HB3.out⟩
end Go.Proofs.YtmhbdmmpmagbkaaGreat.hp
