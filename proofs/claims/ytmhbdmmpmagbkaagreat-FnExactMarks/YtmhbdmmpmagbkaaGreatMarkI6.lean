/-
  Chapter 13 as the program has it: Marks, Garbage and LiveWords.
  Made from the template MarkI6.
-/
import Derived.Test.YtmhbdmmpmagbkaaGreatMarkI5
namespace Go.Proofs.YtmhbdmmpmagbkaaGreat.hp
open Go.RowKit rows heads words walks Go.Maps
set_option maxRecDepth 100000
set_option linter.unusedVariables false
set_option linter.unusedSimpArgs false

theorem field_set (a : Option Addr) (n c : Nat) (w : World) : (Instr.field 61 (.agg #[.slice a n c]) 0).run Tryz.prog w = .ok (.slice a n c) w := rfl
/-- What is so of a right heap that is opened. -/
theorem right_parts {w : World} {a1 : Option Addr} {c1 : Nat} {H : Hp} (hI : HpI H) (hh : heapOk H = true) (hx : IntsAt w (.slice a1 H.row.length c1) H.row) :
    ∃ b off, a1 = some ⟨b, off, none⟩ ∧ ∃ ps, FolP H ps (objsP a1 H) (slP H.row) ∧ RowP b off H (objsP a1 H) ∧ H.row.length ≤ 1000 ∧ H.roots.length ≤ 1000 ∧ H.mourned.length ≤ 1000 ∧ ∀ V v, IntsAt V (.slice a1 H.row.length c1) H.row → PdsAt V v (objsP a1 H) → RoomsAt V v (objsP a1 H) (slP H.row) := by
  obtain ⟨ps, FP⟩ := folP_of (a := a1) hh
  have hrt := (ok_right hh).1
  rw [← openB_is a1 H] at hrt
  obtain ⟨hn, hro, _⟩ := openB_parts hrt
  have N := (places_facts FP.rt.some').1
  have := N.len; have := N.half1; have := N.old1; have := N.roots; have := N.mourned
  obtain ⟨a', c', e, _, _, _, hc⟩ := hx
  obtain ⟨b, off, eb, _⟩ := hc (by omega)
  have ea : a1 = some ⟨b, off, none⟩ := by
    injection e with e _ _
    rw [e, eb]
  refine ⟨b, off, ea, ps, FP, fun i hi => ?_, by omega, by omega, by omega, fun V v h1 h2 => roomsAt_of h1 hn hro hI.2.1 h2⟩
  obtain ⟨j, e, h1, _⟩ := objs_in hro _ (mem_getDP hi)
  exact ⟨j, by rw [e, ea], h1⟩
set_option maxHeartbeats 8000000 in
theorem implMarks {H : Hp} (hI : HpI H) {L : List Int} (hL : IsMarksOk H L) (w : World) (vr vo vm vs : Value) (h : HpAt w vr vo vm vs H) (hs : hpSize H ≤ 1048576) :
    Calls Tryz.prog 24 #[hpv H vr vo vm vs] w fun e w' => ∃ u, e = .returned u ∧ rows.Own w' w.heap.size u L ∧ Below w.heap.size w w' := by
  obtain ⟨a1, c1, a2, c2, a3, c3, a4, c4, e1, e2, e3, e4⟩ := hpAt_slices h
  subst e1 e2 e3 e4
  obtain ⟨B0, q0, hX⟩ := hp_all h
  obtain ⟨z0, z1, z2, z3, z4, z5, z6, z7, z8⟩ := hpb_cells q0
  have OX := opened_any hX hs hI
  unfold OpenR at OX
  have HB0 : Hid _ := B0
  have HXP : Hid _ := hX
  rcases hL with ⟨hh, rfl⟩ | ⟨hh, hL⟩
  · have R0 := OX.mono (fun e w' (g : _ ∧ _ ∧ _) => (⟨g.1 hh, g.2.2⟩ : e = .returned (.tuple #[hov0, .bool false]) ∧ Below _ _ w'))
    clear OX hh h hs hI B0 q0 hX HXP
    have FF := field_set none 0 0
    go_enter Tryz.func24, Tryz.ntmps24
    go_upto_region 2 with (go_at_call 37; refine R0.mono ?_; clear R0 z0 z1 z2 z3 z4 z5 z6 z7 z8; rintro e w1 ⟨rfl, b1⟩; have HB1 : Hid _ := HB0.out.trans (b1.mono HB0.out.size); clear b1)
    have HB2 : Hid _ := HB1.out.alloc HB1.out.size (hob hz s0 s0 s0 s0 0 s0)
    obtain ⟨⟨m0, m1, m2, m3, m4, m5, m6, m7, m8, m9, m10⟩, _⟩ := hob_cells (heap_alloc_new w1 (hob hz s0 s0 s0 s0 0 s0))
    generalize w1.alloc (hob hz s0 s0 s0 s0 0 s0) = Y at *
    have PL := marksNone_any Y
    go_wp2_with (go_at_call 48; refine PL.mono ?_; clear PL; rintro e w3 ⟨rfl, b3⟩; have HB3 : Hid _ := HB2.out.trans (b3.mono HB2.out.size); clear b3)
    go_ret
    exact ⟨_, rfl, ⟨rfl, .inl ⟨rfl, rfl⟩⟩, HB3.out⟩
  · have R0 := OX.mono (fun e w' (g : _ ∧ _ ∧ _) => (⟨g.2.1 hh, g.2.2⟩ : (∃ a5 c5, e = .returned (.tuple #[hov H (.slice a1 H.row.length c1) (.slice a2 H.roots.length c2) (.slice a3 H.mourned.length c3) (.slice a4 H.seen.length c4) (2 * H.half) (.slice a5 (objsP a1 H).length c5), .bool true]) ∧ OwnP w' _ (.slice a5 (objsP a1 H).length c5) (objsP a1 H)) ∧ Below _ _ w'))
    obtain ⟨b, off, ea, ps, FP, RP, l1, l2, l3, RA⟩ := right_parts hI hh hX.1
    have HPA : Hid (∀ V a5 c5, HpAt V (.slice a1 H.row.length c1) (.slice a2 H.roots.length c2) (.slice a3 H.mourned.length c3) (.slice a4 H.seen.length c4) H → PdsAt V (.slice a5 (objsP a1 H).length c5) (objsP a1 H) → Calls Tryz.prog 48 #[hov H (.slice a1 H.row.length c1) (.slice a2 H.roots.length c2) (.slice a3 H.mourned.length c3) (.slice a4 H.seen.length c4) (2 * H.half) (.slice a5 (objsP a1 H).length c5)] V fun e w' => ∃ u, e = .returned (.agg #[u]) ∧ rows.Own w' V.heap.size u L ∧ Below V.heap.size V w') := fun V a5 c5 h1 h2 => by
      have rr := RA V _ h1.1 h2
      subst ea
      exact marks_any h1 rr FP hI l1 l2 l3 RP hL (2 * H.half)
    clear OX hh h hs hI B0 q0 hX ea FP RP RA hL
    go_enter Tryz.func24, Tryz.ntmps24
    go_upto_region 2 with (go_at_call 37; refine R0.mono ?_; clear R0 z0 z1 z2 z3 z4 z5 z6 z7 z8; rintro e w1 ⟨⟨a5, c5, rfl, O1⟩, b1⟩; have HB1 : Hid _ := HB0.out.trans (b1.mono HB0.out.size); have HO1 : Hid _ := ownP_at O1; have HX1 : Hid _ := hpAt_below HXP.out b1; clear b1 O1)
    have B2 : Below w1.heap.size w1 (w1.alloc (hob H (.slice a1 H.row.length c1) (.slice a2 H.roots.length c2) (.slice a3 H.mourned.length c3) (.slice a4 H.seen.length c4) (2 * H.half) (.slice a5 (objsP a1 H).length c5))) := (Below.refl _ _).alloc (Nat.le_refl _) _
    have HB2 : Hid _ := HB1.out.trans (B2.mono HB1.out.size)
    have PL := HPA.out _ a5 c5 (hpAt_below HX1.out B2) (pdsAt_below HO1.out B2)
    obtain ⟨⟨m0, m1, m2, m3, m4, m5, m6, m7, m8, m9, m10⟩, _⟩ := hob_cells (heap_alloc_new w1 (hob H (.slice a1 H.row.length c1) (.slice a2 H.roots.length c2) (.slice a3 H.mourned.length c3) (.slice a4 H.seen.length c4) (2 * H.half) (.slice a5 (objsP a1 H).length c5)))
    clear B2 HO1 HPA HX1 HXP
    generalize w1.alloc (hob H (.slice a1 H.row.length c1) (.slice a2 H.roots.length c2) (.slice a3 H.mourned.length c3) (.slice a4 H.seen.length c4) (2 * H.half) (.slice a5 (objsP a1 H).length c5)) = Y at *
    go_wp2_with (go_at_call 48; refine PL.mono ?_; clear PL; rintro e w3 ⟨v3, rfl, O3, b3⟩; have HO3 : Hid _ := own_base O3 HB2.out.size; have HB3 : Hid _ := HB2.out.trans (b3.mono HB2.out.size); obtain ⟨oa, on, oc, rfl⟩ := ints_slice (own_ints O3); have FF := field_set oa on oc; clear O3 b3)
    go_ret
    exact ⟨_, rfl, HO3.out, HB3.out⟩
/-- How many words such places' chunks take. -/
def liveN (H : Hp) (L : List Int) : Int := (L.map (fun p => chunk H.row p.toNat)).sum
/-- The answer of LiveWords. -/
def liveOk (H : Hp) (L : List Int) : Int := if heapOk H = true then liveN H L else -1
theorem liveN_next {H : Hp} {L : List Int} {k : Nat} (hk : k < L.length) : liveN H (L.take (k + 1)) = liveN H (L.take k) + chunk H.row (L.getD k 0).toNat := by
  unfold liveN
  rw [List.take_add_one, List.map_append, List.sum_append, List.getElem?_eq_getElem hk, List.getD_eq_getElem?_getD, List.getElem?_eq_getElem hk]
  simp
theorem liveN_bound {H : Hp} : ∀ {L : List Int}, 0 ≤ liveN H L ∧ liveN H L ≤ (L.length : Int) * (H.row.length : Int)
  | [] => by simp [liveN]
  | p :: L => by
    have ih := liveN_bound (H := H) (L := L)
    have b := chunk_bounds H.row p.toNat
    have e : liveN H (p :: L) = chunk H.row p.toNat + liveN H L := by simp [liveN]
    have e2 : ((p :: L).length : Int) * (H.row.length : Int) = (L.length : Int) * (H.row.length : Int) + (H.row.length : Int) := by rw [List.length_cons]; push_cast; rw [Int.add_mul, Int.one_mul]
    rw [e, e2]
    omega
set_option maxHeartbeats 8000000 in
theorem implLiveWords {H : Hp} (hI : HpI H) {L : List Int} (hL : IsMarksOk H L) (w : World) (vr vo vm vs : Value) (h : HpAt w vr vo vm vs H) (hs : hpSize H ≤ 1048576) :
    Calls Tryz.prog 31 #[hpv H vr vo vm vs] w fun e w' => e = .returned (.int .i64 (liveOk H L)) ∧ Below w.heap.size w w' := by
  obtain ⟨a1, c1, a2, c2, a3, c3, a4, c4, e1, e2, e3, e4⟩ := hpAt_slices h
  subst e1 e2 e3 e4
  obtain ⟨B0, q0, hX⟩ := hp_all h
  obtain ⟨z0, z1, z2, z3, z4, z5, z6, z7, z8⟩ := hpb_cells q0
  have OX := opened_any hX hs hI
  unfold OpenR at OX
  have HB0 : Hid _ := B0
  have HXP : Hid _ := hX
  have HQ0 : Hid _ := q0
  unfold liveOk
  rcases hL with ⟨hh, rfl⟩ | ⟨hh, hL⟩
  · have R0 := OX.mono (fun e w' (g : _ ∧ _ ∧ _) => (⟨g.1 hh, g.2.2⟩ : e = .returned (.tuple #[hov0, .bool false]) ∧ Below _ _ w'))
    rw [if_neg (by rw [hh]; decide)]
    clear OX hh h hs hI B0 q0 hX HXP
    go_enter Tryz.func31, Tryz.ntmps31
    go_wp2_with (go_at_call 37; refine R0.mono ?_; clear R0 z0 z1 z2 z3 z4 z5 z6 z7 z8; rintro e w1 ⟨rfl, b1⟩; have HB1 : Hid _ := HB0.out.trans (b1.mono HB0.out.size); clear b1)
    go_ret
    exact ⟨rfl, HB1.out.alloc HB1.out.size _⟩
  · have R0 := OX.mono (fun e w' (g : _ ∧ _ ∧ _) => (⟨g.2.1 hh, g.2.2⟩ : (∃ a5 c5, e = .returned (.tuple #[hov H (.slice a1 H.row.length c1) (.slice a2 H.roots.length c2) (.slice a3 H.mourned.length c3) (.slice a4 H.seen.length c4) (2 * H.half) (.slice a5 (objsP a1 H).length c5), .bool true]) ∧ OwnP w' _ (.slice a5 (objsP a1 H).length c5) (objsP a1 H)) ∧ Below _ _ w'))
    rw [if_pos hh]
    obtain ⟨b, off, ea, ps, FP, RP, l1, l2, l3, RA⟩ := right_parts hI hh hX.1
    have hLl : L.length ≤ 500 := FP.rt.marks_len hL.1 (fun a ha => (hL.2 a).1 ha)
    have HCH : Hid (∀ k, k < L.length → ∀ V, IntsAt V (.slice a1 H.row.length c1) H.row → Calls Tryz.prog 56 #[.slice a1 H.row.length c1, .int .i64 (L.getD k 0)] V fun e w' => e = .returned (.int .i64 (chunk H.row (L.getD k 0).toNat)) ∧ Below V.heap.size V w') := fun k hk V hV => by
      have hm : L.getD k 0 ∈ L := by rw [List.getD_eq_getElem?_getD, List.getElem?_eq_getElem hk]; exact List.getElem_mem hk
      obtain ⟨j, ej, hj, hc⟩ := FP.rt.plc _ (FP.rt.mk_at ((hL.2 _).1 hm)).1
      rw [ej]
      have hi : I64 (j : Int) := ⟨by omega, by omega⟩
      have := implChunkAt V _ H.row (j : Int) hV (by omega) hI.2.1 hi
      rw [chunkAt_in (by simp [okAt, rowOk, atOk]; omega)] at this
      rw [Int.toNat_natCast]
      exact this
    have HPA : Hid (∀ V a5 c5, HpAt V (.slice a1 H.row.length c1) (.slice a2 H.roots.length c2) (.slice a3 H.mourned.length c3) (.slice a4 H.seen.length c4) H → PdsAt V (.slice a5 (objsP a1 H).length c5) (objsP a1 H) → Calls Tryz.prog 48 #[hov H (.slice a1 H.row.length c1) (.slice a2 H.roots.length c2) (.slice a3 H.mourned.length c3) (.slice a4 H.seen.length c4) (2 * H.half) (.slice a5 (objsP a1 H).length c5)] V fun e w' => ∃ u, e = .returned (.agg #[u]) ∧ rows.Own w' V.heap.size u L ∧ Below V.heap.size V w') := fun V a5 c5 h1 h2 => by
      have rr := RA V _ h1.1 h2
      subst ea
      exact marks_any h1 rr FP hI l1 l2 l3 RP hL (2 * H.half)
    have HBD : Hid (∀ k, k ≤ L.length → 0 ≤ liveN H (L.take k) ∧ liveN H (L.take k) ≤ 500000) := fun k hk => by
      have e := liveN_bound (H := H) (L := L.take k)
      have l4 : (L.take k).length ≤ 500 := by rw [List.length_take]; omega
      have : ((L.take k).length : Int) * (H.row.length : Int) ≤ 500 * 1000 := Int.mul_le_mul (by omega) (by omega) (by omega) (by omega)
      omega
    have HCB : Hid (∀ p : Int, 0 ≤ chunk H.row p.toNat ∧ chunk H.row p.toNat ≤ 1000) := fun p => by have := chunk_bounds H.row p.toNat; omega
    clear OX hh h hs hI B0 q0 hX ea FP RP RA hL
    go_enter Tryz.func31, Tryz.ntmps31
    go_upto_region 2 with (go_at_call 37; refine R0.mono ?_; clear R0 z0 z1 z2 z3 z4 z5 z6 z7 z8; rintro e w1 ⟨⟨a5, c5, rfl, O1⟩, b1⟩; have HB1 : Hid _ := HB0.out.trans (b1.mono HB0.out.size); have HO1 : Hid _ := ownP_at O1; have HX1 : Hid _ := hpAt_below HXP.out b1; have HQ1 : Hid _ := (b1.block _ (lt_of_block HQ0.out)).trans HQ0.out; clear b1 O1)
    have B2 : Below w1.heap.size w1 (w1.alloc (hob H (.slice a1 H.row.length c1) (.slice a2 H.roots.length c2) (.slice a3 H.mourned.length c3) (.slice a4 H.seen.length c4) (2 * H.half) (.slice a5 (objsP a1 H).length c5))) := (Below.refl _ _).alloc (Nat.le_refl _) _
    have HB2 : Hid _ := HB1.out.trans (B2.mono HB1.out.size)
    have HX2 : Hid _ := hpAt_below HX1.out B2
    have HQ2 : Hid _ := (B2.block _ (lt_of_block HQ1.out)).trans HQ1.out
    have PL := HPA.out _ a5 c5 HX2.out (pdsAt_below HO1.out B2)
    obtain ⟨⟨m0, m1, m2, m3, m4, m5, m6, m7, m8, m9, m10⟩, _⟩ := hob_cells (heap_alloc_new w1 (hob H (.slice a1 H.row.length c1) (.slice a2 H.roots.length c2) (.slice a3 H.mourned.length c3) (.slice a4 H.seen.length c4) (2 * H.half) (.slice a5 (objsP a1 H).length c5)))
    clear B2 HO1 HPA HX1 HXP HQ1 HQ0
    generalize w1.alloc (hob H (.slice a1 H.row.length c1) (.slice a2 H.roots.length c2) (.slice a3 H.mourned.length c3) (.slice a4 H.seen.length c4) (2 * H.half) (.slice a5 (objsP a1 H).length c5)) = Y at *
    go_wp2_with fail
    refine PL.mono ?_
    clear PL m0 m1 m2 m3 m4 m5 m6 m7 m8 m9 m10
    rintro e w3 ⟨v3, rfl, O3, b3⟩
    obtain ⟨oa, oc, hv3⟩ : ∃ a c, v3 = .slice a L.length c := by
      obtain ⟨a, c, e, _⟩ := own_ints O3
      exact ⟨a, c, e⟩
    subst hv3
    have HI3 : Hid _ := own_ints O3
    have HB3 : Hid _ := HB2.out.trans (b3.mono HB2.out.size)
    have HX3 : Hid _ := hpAt_below HX2.out b3
    have HQ3 : Hid _ := (b3.block _ (lt_of_block HQ2.out)).trans HQ2.out
    have FF := field_set oa L.length oc
    clear O3 b3 HX2 HQ2 HB2
    go_wp2_with fail
    go_loopw [5, 7, 19] (fun s _ p wr => ∃ k : Nat, k ≤ L.length ∧ p = .int .i64 k ∧ s = .int .i64 (liveN H (L.take k)) ∧ Below w3.heap.size w3 wr) (fun _ _ p _ => L.length - (intOf p).toNat)
    case atStart => exact ⟨0, Nat.zero_le _, rfl, by simp [liveN], Below.refl _ _⟩
    case round =>
      obtain ⟨k, hk, rfl, rfl, hB⟩ := hrel
      have HB : Hid _ := hB
      by_cases hlt : k < L.length
      · obtain ⟨b', off', ea, _, x0⟩ := ints_cellI (intsAt_below HI3.out hB) hlt
        subst ea
        obtain ⟨_, _, y2, _⟩ := hpb_cells ((hB.block _ (lt_of_block HQ3.out)).trans HQ3.out)
        have CH := HCH.out k hlt wr (hpAt_below HX3.out hB).1
        have HNX : Hid _ := liveN_next (H := H) hlt
        have hb0 := HBD.out k hk
        have hc0 := HCB.out (L.getD k 0)
        have hlt' : (k : Int) < (L.length : Int) := by omega
        clear hB
        generalize chunk H.row (L.getD k 0).toNat = cc at *
        generalize L.getD k 0 = x at *
        generalize liveN H (L.take k) = ss at *
        go_wp2_with (go_at_call 56; refine CH.mono ?_; clear CH; rintro e w4 ⟨rfl, b4⟩; have HB4 : Hid _ := HB.out.trans (b4.mono HB.out.size); clear b4)
        exact ⟨⟨k + 1, by omega, by go_num, by rw [HNX.out], HB4.out⟩, by simp [intOf]; omega⟩
      · have e : k = L.length := by omega
        subst e
        have hlt' : ¬ (L.length : Int) < (L.length : Int) := by omega
        rw [List.take_length]
        have HBE : Hid _ := HB3.out.trans (hB.mono HB3.out.size)
        clear hB
        obtain ⟨ss, hss⟩ : ∃ ss, liveN H L = ss := ⟨_, rfl⟩
        rw [hss]
        have HSS : Hid _ := hss
        clear hss
        go_wp2
        go_ret
        exact ⟨by rw [HSS.out]; rfl, HBE.out⟩
end Go.Proofs.YtmhbdmmpmagbkaaGreat.hp
