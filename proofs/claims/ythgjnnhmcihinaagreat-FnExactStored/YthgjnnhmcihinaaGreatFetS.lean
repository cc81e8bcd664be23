/-
  Chapter 12 as the specification has it: a slot there is, and what stands in it, followed.
  Made from the template FetS.
-/
import Derived.Test.YthgjnnhmcihinaaGreatM5
import Derived.Test.YthgjnnhmcihinaaGreatM6
namespace Go.Proofs.YthgjnnhmcihinaaGreat.hp
open Go.RowKit rows heads words walks region
set_option maxRecDepth 100000
set_option linter.unusedVariables false
set_option linter.unusedSimpArgs false

/-- Is there an object that is no note at this place, with such a slot? -/
def slotB (H : Hp) (ps : List Int) (p k : Int) : Bool := decide (p ∈ objL H ps) && (!(uF (H.row.getD p.toNat 0) == 7) && (decide (0 ≤ k) && decide (k < uS (H.row.getD p.toNat 0))))
/-- The word there. -/
def slotW (H : Hp) (p k : Int) : Int := H.row.getD (p.toNat + 1 + k.toNat) 0
theorem slot_in {H : Hp} {ps : List Int} (R : Rt H ps) {p k : Int} (h : slotB H ps p k = true) : ∃ j m : Nat, p = j ∧ k = m ∧ j + 1 + m < H.row.length ∧ slotW H p k = H.row.getD (j + 1 + m) 0 ∧ wordIn H ps (H.row.getD (j + 1 + m) 0) = true ∧ p ∈ ps ∧ uF (H.row.getD j 0) ≠ 6 ∧ uF (H.row.getD j 0) ≠ 7 ∧ (m : Int) < uS (H.row.getD j 0) := by
  unfold slotB at h
  simp only [Bool.and_eq_true, decide_eq_true_eq, Bool.not_eq_true', beq_eq_false_iff_ne] at h
  obtain ⟨h1, h2, h3, h4⟩ := h
  obtain ⟨hp, h6⟩ := objL_mem h1
  obtain ⟨j, rfl, hjl, hc⟩ := R.plc p hp
  rw [Int.toNat_natCast] at h2 h4 h6
  obtain ⟨m, rfl⟩ : ∃ m : Nat, k = m := ⟨k.toNat, by omega⟩
  have hcn : cnS (H.row.getD j 0) = uS (H.row.getD j 0) := by unfold cnS; rw [if_neg h2, if_neg h6]
  obtain ⟨_, q2⟩ := chunk_slots hc
  rw [hcn] at q2
  have hl : j + 1 + m < H.row.length := by omega
  refine ⟨j, m, rfl, rfl, hl, by unfold slotW; rw [Int.toNat_natCast, Int.toNat_natCast], ?_, hp, h6, h2, h4⟩
  have hs := R.slots
  unfold slotsOk at hs
  rw [List.all_eq_true] at hs
  have h1 := hs _ hp
  rw [List.all_eq_true] at h1
  refine h1 _ ?_
  unfold slotsOf
  rw [Int.toNat_natCast, hcn, List.mem_iff_getElem?]
  refine ⟨m, ?_⟩
  rw [List.getElem?_take, if_pos (by omega), List.getElem?_drop, List.getElem?_eq_getElem hl, List.getD_eq_getElem?_getD, List.getElem?_eq_getElem hl]; rfl
theorem Rt.olen {H : Hp} {ps : List Int} (R : Rt H ps) : (objL H ps).length ≤ 1048576 := by
  have := (places_plc R.some').2
  exact Nat.le_trans (objL_len _ _) (by omega)
set_option maxHeartbeats 8000000 in
theorem l12Slot_any {w : World} {vr vo vm vs : Value} {H : Hp} (h : HpAt w vr vo vm vs H) {ps : List Int} (R : Rt H ps) (p k : Int) :
    Calls Tryz.prog 44 #[hpv H vr vo vm vs, .int .i64 p, .int .i64 k] w fun e w' => e = .returned (.bool (slotB H ps p k)) ∧ Below w.heap.size w w' := by
  obtain ⟨a1, c1, a2, c2, a3, c3, a4, c4, e1, e2, e3, e4⟩ := hpAt_slices h
  subst e1 e2 e3 e4
  have B0 : Below w.heap.size w (w.alloc (hpb H (.slice a1 H.row.length c1) (.slice a2 H.roots.length c2) (.slice a3 H.mourned.length c3) (.slice a4 H.seen.length c4))) := (Below.refl _ _).alloc (Nat.le_refl _) _
  have T0 := nine_new w H (.slice a1 H.row.length c1) (.slice a2 H.roots.length c2) (.slice a3 H.mourned.length c3) (.slice a4 H.seen.length c4)
  have HT0 : Hid _ := T0
  have HB0 : Hid _ := B0
  have HH0 : Hid (HpAt _ (.slice a1 H.row.length c1) (.slice a2 H.roots.length c2) (.slice a3 H.mourned.length c3) (.slice a4 H.seen.length c4) H) := hpAt_below h B0
  obtain ⟨⟨z0, z1, z2, z3, z4⟩, ⟨z5, z6, z7, z8⟩, _⟩ := nine_cells T0
  have OB := l9Objects_any HH0.out R.some'
  have HLH : Hid (∀ V u, IntsAt V u (objL H ps) → Calls Tryz.prog 60 #[u, .int .i64 p] V fun e w' => e = .returned (.bool (decide (p ∈ objL H ps))) ∧ w' = V) := fun V u hu => l1Has_any hu R.olen p
  cases dm : decide (p ∈ objL H ps)
  · have e : slotB H ps p k = false := by unfold slotB; rw [dm]; rfl
    rw [e]
    simp only [dm] at HLH
    clear B0 T0 h e dm
    go_enter Tryz.func44, Tryz.ntmps44
    go_wp2_with (first
      | (go_at_call 76; refine OB.mono ?_; clear OB z0 z1 z2 z3 z4 z5 z6 z7 z8; rintro e w3 ⟨v3, rfl, O3, b3⟩; have HB3 : Hid _ := HB0.out.trans (b3.mono HB0.out.size); have LH := HLH.out w3 _ (own_ints O3); obtain ⟨oa, on, oc, rfl⟩ := ints_slice (own_ints O3); clear O3 b3 HLH)
      | (go_at_call 60; refine LH.mono ?_; clear LH; rintro e w4 ⟨rfl, hw4⟩; rw [hw4]; clear hw4 w4))
    go_ret
    exact ⟨rfl, HB3.out⟩
  have hmem : p ∈ objL H ps := by simpa using dm
  obtain ⟨hp, _⟩ := objL_mem hmem
  obtain ⟨j, rfl, hjl, _⟩ := R.plc p hp
  have HL4 : Hid (∀ V, HpAt V (.slice a1 H.row.length c1) (.slice a2 H.roots.length c2) (.slice a3 H.mourned.length c3) (.slice a4 H.seen.length c4) H → Calls Tryz.prog 61 #[.slice a1 H.row.length c1, .int .i64 j] V fun e w' => e = .returned (hw (H.row.getD j 0)) ∧ Below V.heap.size V w') := fun V hV => l4Head_any hV.1 j hjl
  unfold hw at HL4
  have e : slotB H ps j k = (!(uF (H.row.getD j 0) == 7) && (decide (0 ≤ k) && decide (k < uS (H.row.getD j 0)))) := by unfold slotB; rw [dm, Int.toNat_natCast]; rfl
  rw [e]
  simp only [dm] at HLH
  generalize uF (H.row.getD j 0) = f at *
  generalize uS (H.row.getD j 0) = s at *
  generalize uC (H.row.getD j 0) = c at *
  generalize uH (H.row.getD j 0) = g at *
  generalize uP (H.row.getD j 0) = p0 at *
  generalize uM (H.row.getD j 0) = m at *
  clear B0 T0 h e dm hmem hp hjl
  have HHN : Hid (∀ V : World, HeadAt (V.alloc (hb s f c g p0 m)) V.heap.size s f c g p0 m) := fun V => headAt_new V s f c g p0 m
  by_cases h7 : f = 7
  · subst h7
    go_enter Tryz.func44, Tryz.ntmps44
    go_wp2_with (first
      | (go_at_call 76; refine OB.mono ?_; clear OB z0 z1 z2 z3 z4 z5 z6 z7 z8; rintro e w3 ⟨v3, rfl, O3, b3⟩; have HB3 : Hid _ := HB0.out.trans (b3.mono HB0.out.size); obtain ⟨⟨z0, z1, z2, z3, z4⟩, ⟨z5, z6, z7, z8⟩, _⟩ := nine_cells (nine_below HT0.out b3); have L4 := HL4.out w3 (hpAt_below HH0.out b3); have LH := HLH.out w3 _ (own_ints O3); obtain ⟨oa, on, oc, rfl⟩ := ints_slice (own_ints O3); clear O3 b3 HLH HL4)
      | (go_at_call 60; refine LH.mono ?_; clear LH; rintro e w4 ⟨rfl, hw4⟩; rw [hw4]; clear hw4 w4)
      | (go_at_call 61; refine L4.mono ?_; clear L4; rintro e w5 ⟨rfl, b5⟩; have HB5 : Hid _ := HB3.out.trans (b5.mono HB3.out.size); obtain ⟨g0, g1, g2, g3, g4, g5, gf⟩ := headAt_cells (HHN.out w5); clear b5 z0 z1 z2 z3 z4 z5 z6 z7 z8 gf))
    go_ret
    exact ⟨rfl, HB5.out.alloc HB5.out.size _⟩
  have h7' : (f != 7) = true := by simp [h7]
  have h7e : (f == 7) = false := by simp [h7]
  rw [h7e]
  by_cases hk0 : 0 ≤ k
  · rw [decide_eq_true hk0]
    go_enter Tryz.func44, Tryz.ntmps44
    go_wp2_with (first
      | (go_at_call 76; refine OB.mono ?_; clear OB z0 z1 z2 z3 z4 z5 z6 z7 z8; rintro e w3 ⟨v3, rfl, O3, b3⟩; have HB3 : Hid _ := HB0.out.trans (b3.mono HB0.out.size); obtain ⟨⟨z0, z1, z2, z3, z4⟩, ⟨z5, z6, z7, z8⟩, _⟩ := nine_cells (nine_below HT0.out b3); have L4 := HL4.out w3 (hpAt_below HH0.out b3); have LH := HLH.out w3 _ (own_ints O3); obtain ⟨oa, on, oc, rfl⟩ := ints_slice (own_ints O3); clear O3 b3 HLH HL4)
      | (go_at_call 60; refine LH.mono ?_; clear LH; rintro e w4 ⟨rfl, hw4⟩; rw [hw4]; clear hw4 w4)
      | (go_at_call 61; refine L4.mono ?_; clear L4; rintro e w5 ⟨rfl, b5⟩; have HB5 : Hid _ := HB3.out.trans (b5.mono HB3.out.size); obtain ⟨g0, g1, g2, g3, g4, g5, gf⟩ := headAt_cells (HHN.out w5); clear b5 z0 z1 z2 z3 z4 z5 z6 z7 z8 gf))
    go_ret
    exact ⟨by simp, HB5.out.alloc HB5.out.size _⟩
  · have hk0' : ¬ (k ≥ 0) := hk0
    have hk0d : decide (0 ≤ k) = false := by simp [hk0]
    rw [hk0d]
    go_enter Tryz.func44, Tryz.ntmps44
    go_wp2_with (first
      | (go_at_call 76; refine OB.mono ?_; clear OB z0 z1 z2 z3 z4 z5 z6 z7 z8; rintro e w3 ⟨v3, rfl, O3, b3⟩; have HB3 : Hid _ := HB0.out.trans (b3.mono HB0.out.size); obtain ⟨⟨z0, z1, z2, z3, z4⟩, ⟨z5, z6, z7, z8⟩, _⟩ := nine_cells (nine_below HT0.out b3); have L4 := HL4.out w3 (hpAt_below HH0.out b3); have LH := HLH.out w3 _ (own_ints O3); obtain ⟨oa, on, oc, rfl⟩ := ints_slice (own_ints O3); clear O3 b3 HLH HL4)
      | (go_at_call 60; refine LH.mono ?_; clear LH; rintro e w4 ⟨rfl, hw4⟩; rw [hw4]; clear hw4 w4)
      | (go_at_call 61; refine L4.mono ?_; clear L4; rintro e w5 ⟨rfl, b5⟩; have HB5 : Hid _ := HB3.out.trans (b5.mono HB3.out.size); obtain ⟨g0, g1, g2, g3, g4, g5, gf⟩ := headAt_cells (HHN.out w5); clear b5 z0 z1 z2 z3 z4 z5 z6 z7 z8 gf))
    go_ret
    exact ⟨by simp, HB5.out.alloc HB5.out.size _⟩

/-- Is there such a slot, of a heap that is right? -/
def fetB (H : Hp) (p k : Int) : Bool := heapOk H && slotB H ((placesR H).getD []) p k
/-- What Fetched answers. -/
def fetV (H : Hp) (p k : Int) : Int := if fetB H p k = true then fol H (slotW H p k) else 0
set_option maxHeartbeats 16000000 in
theorem sFetched_any {w : World} {vr vo vm vs : Value} {H : Hp} (h : HpAt w vr vo vm vs H) (hs : hpSize H ≤ 1048576) (p k : Int) :
    Calls Tryz.prog 22 #[hpv H vr vo vm vs, .int .i64 p, .int .i64 k] w fun e w' => e = .returned (.tuple #[.int .i64 (fetV H p k), .bool (fetB H p k)]) ∧ Below w.heap.size w w' := by
  obtain ⟨a1, c1, a2, c2, a3, c3, a4, c4, e1, e2, e3, e4⟩ := hpAt_slices h
  subst e1 e2 e3 e4
  have B0 : Below w.heap.size w (w.alloc (hpb H (.slice a1 H.row.length c1) (.slice a2 H.roots.length c2) (.slice a3 H.mourned.length c3) (.slice a4 H.seen.length c4))) := (Below.refl _ _).alloc (Nat.le_refl _) _
  have T0 := nine_new w H (.slice a1 H.row.length c1) (.slice a2 H.roots.length c2) (.slice a3 H.mourned.length c3) (.slice a4 H.seen.length c4)
  have HT0 : Hid _ := T0
  have HB0 : Hid _ := B0
  have HH0 : Hid (HpAt _ (.slice a1 H.row.length c1) (.slice a2 H.roots.length c2) (.slice a3 H.mourned.length c3) (.slice a4 H.seen.length c4) H) := hpAt_below h B0
  obtain ⟨⟨z0, z1, z2, z3, z4⟩, ⟨z5, z6, z7, z8⟩, _⟩ := nine_cells T0
  have HK := sHeapOk_any HH0.out hs
  unfold fetV
  cases dr : heapOk H
  · rw [dr] at HK
    have e : fetB H p k = false := by unfold fetB; rw [dr]; rfl
    rw [e, if_neg (by decide)]
    clear B0 T0 h dr e
    go_enter Tryz.func22, Tryz.ntmps22
    go_wp2_with (go_at_call 27; refine HK.mono ?_; clear HK; rintro e w2 ⟨rfl, b2⟩; have HBE : Hid _ := HB0.out.trans (b2.mono HB0.out.size); clear b2)
    go_ret2
    exact ⟨rfl, HBE.out⟩
  rw [dr] at HK
  obtain ⟨ps, RR⟩ := rt_of (ok_right dr).1
  have e : fetB H p k = slotB H ps p k := by unfold fetB; rw [dr, RR.some', Option.getD_some]; rfl
  rw [e]
  have HSL : Hid (∀ V, HpAt V (.slice a1 H.row.length c1) (.slice a2 H.roots.length c2) (.slice a3 H.mourned.length c3) (.slice a4 H.seen.length c4) H → Calls Tryz.prog 44 #[hpv H (.slice a1 H.row.length c1) (.slice a2 H.roots.length c2) (.slice a3 H.mourned.length c3) (.slice a4 H.seen.length c4), .int .i64 p, .int .i64 k] V fun e w' => e = .returned (.bool (slotB H ps p k)) ∧ Below V.heap.size V w') := fun V hV => l12Slot_any hV RR p k
  cases ds : slotB H ps p k
  · rw [if_neg (by decide)]
    simp only [ds] at HSL
    clear B0 T0 h dr e ds RR
    go_enter Tryz.func22, Tryz.ntmps22
    go_wp2_with (first
      | (go_at_call 27; refine HK.mono ?_; clear HK z0 z1 z2 z3 z4 z5 z6 z7 z8; rintro e w2 ⟨rfl, b2⟩; have HB2 : Hid _ := HB0.out.trans (b2.mono HB0.out.size); obtain ⟨⟨z0, z1, z2, z3, z4⟩, ⟨z5, z6, z7, z8⟩, _⟩ := nine_cells (nine_below HT0.out b2); have SL := HSL.out w2 (hpAt_below HH0.out b2); clear b2 HSL)
      | (go_at_call 44; refine SL.mono ?_; clear SL; rintro e w3 ⟨rfl, b3⟩; have HB3 : Hid _ := HB2.out.trans (b3.mono HB2.out.size); clear b3))
    go_ret2
    exact ⟨rfl, HB3.out⟩
  rw [if_pos rfl]
  simp only [ds] at HSL
  obtain ⟨j, m, rfl, rfl, hlt, hsw, hwx, _⟩ := slot_in RR ds
  rw [hsw]
  have hlen := RR.len
  have HFO : Hid (∀ V, HpAt V (.slice a1 H.row.length c1) (.slice a2 H.roots.length c2) (.slice a3 H.mourned.length c3) (.slice a4 H.seen.length c4) H → Calls Tryz.prog 45 #[hpv H (.slice a1 H.row.length c1) (.slice a2 H.roots.length c2) (.slice a3 H.mourned.length c3) (.slice a4 H.seen.length c4), .int .i64 (H.row.getD (j + 1 + m) 0)] V fun e w' => e = .returned (.int .i64 (fol H (H.row.getD (j + 1 + m) 0))) ∧ Below V.heap.size V w') := fun V hV => l10Follow_any hV RR _ hwx
  obtain ⟨x, hx⟩ : ∃ x, H.row.getD (j + 1 + m) 0 = x := ⟨_, rfl⟩
  rw [hx] at HFO ⊢
  obtain ⟨y, hy⟩ : ∃ y, fol H x = y := ⟨_, rfl⟩
  simp only [hy] at HFO
  rw [hy]
  have HX : Hid _ := hx
  have hj1 : (0 : Int) ≤ (j : Int) + 1 + (m : Int) := by omega
  have hj2 : (j : Int) + 1 + (m : Int) < (H.row.length : Int) := by omega
  have hj3 : ((j : Int) + 1 + (m : Int)).toNat = j + 1 + m := by omega
  have hj4 : IntKind.i64.wrap ((j : Int) + 1) = (j : Int) + 1 := by rw [IntKind.wrap_i64]; omega
  have hj5 : IntKind.i64.wrap ((j : Int) + 1 + (m : Int)) = (j : Int) + 1 + (m : Int) := by rw [IntKind.wrap_i64]; omega
  clear B0 T0 h dr e ds RR hsw hwx hx hy
  go_enter Tryz.func22, Tryz.ntmps22
  go_upto_region 3 with (first
      | (go_at_call 27; refine HK.mono ?_; clear HK z0 z1 z2 z3 z4 z5 z6 z7 z8; rintro e w2 ⟨rfl, b2⟩; have HB2 : Hid _ := HB0.out.trans (b2.mono HB0.out.size); obtain ⟨⟨z0, z1, z2, z3, z4⟩, ⟨z5, z6, z7, z8⟩, _⟩ := nine_cells (nine_below HT0.out b2); have SL := HSL.out w2 (hpAt_below HH0.out b2); have HBX : Hid _ := b2; clear b2 HSL)
      | (go_at_call 44; refine SL.mono ?_; clear SL z0 z1 z2 z3 z4 z5 z6 z7 z8; rintro e w3 ⟨rfl, b3⟩; have HB3 : Hid _ := HB2.out.trans (b3.mono HB2.out.size); have HBY : Hid _ := HBX.out.trans (b3.mono HBX.out.size); clear b3))
  have h3 := hpAt_below HH0.out HBY.out
  obtain ⟨⟨Z0, Z1, Z2, Z3, Z4⟩, ⟨Z5, Z6, Z7, Z8⟩⟩ := nine_grow (nine_below HT0.out HBY.out)
  obtain ⟨rb, ro, ev, hrb, x0⟩ := ints_cell h3.1 hlt
  subst ev
  rw [HX.out] at x0
  have Y0 := cell_grow x0
  have HF1 : Hid (∀ x' : Ext w3.heap.size w3, Calls Tryz.prog 45 #[hpv H (.slice (some ⟨rb, ro, none⟩) H.row.length c1) (.slice a2 H.roots.length c2) (.slice a3 H.mourned.length c3) (.slice a4 H.seen.length c4), .int .i64 x] x'.to fun e w'' => e = .returned (.int .i64 y) ∧ ∃ y' : Ext w3.heap.size w3, w'' = y'.to) := fun x' => calls_grow (Nat.le_refl _) (HFO.out _ (hpAt_below h3 x'.below))
  clear h3 x0 HFO HX
  haveI := ext_any w3
  refine region_grow (n := w3.heap.size) (by kernel_rfl) (by kernel_rfl) ?_
  repeat (go_big_quiet_step ((go_at_call 45; exact HF1.out _)))
  refine wpQuiet_nil ?_
  intro _ hw'
  obtain ⟨x', rfl⟩ := hw'
  have HB4 : Hid _ := HB3.out.trans (x'.below.mono HB3.out.size)
  clear Z0 Z1 Z2 Z3 Z4 Z5 Z6 Z7 Z8 Y0 HF1
  generalize x'.to = W at *
  clear x' this
  go_wp2
  go_ret2
  exact ⟨rfl, HB4.out⟩
end Go.Proofs.YthgjnnhmcihinaaGreat.hp
