/-
  Chapter 13 as the specification has it: Marks, Garbage, LiveWords.
  Made from the template MarkS2.
-/
import Derived.Test.YtmhbdmmpmagbkaaGreatMarkS
import Derived.Test.YtmhbdmmpmagbkaaGreatMarkI7
namespace Go.Proofs.YtmhbdmmpmagbkaaGreat.hp
open Go.RowKit rows heads words walks region
set_option maxRecDepth 100000
set_option linter.unusedVariables false
set_option linter.unusedSimpArgs false

set_option maxHeartbeats 8000000 in
theorem sMarks_any {w : World} {vr vo vm vs : Value} {H : Hp} (h : HpAt w vr vo vm vs H) (hs : hpSize H ≤ 1048576) {L : List Int} (hL : IsMarksOk H L) :
    Calls Tryz.prog 23 #[hpv H vr vo vm vs] w fun e w' => ∃ v', e = .returned v' ∧ rows.Own w' w.heap.size v' L ∧ Below w.heap.size w w' := by
  obtain ⟨a1, c1, a2, c2, a3, c3, a4, c4, e1, e2, e3, e4⟩ := hpAt_slices h
  subst e1 e2 e3 e4
  have B0 : Below w.heap.size w (w.alloc (hpb H (.slice a1 H.row.length c1) (.slice a2 H.roots.length c2) (.slice a3 H.mourned.length c3) (.slice a4 H.seen.length c4))) := (Below.refl _ _).alloc (Nat.le_refl _) _
  have T0 := nine_new w H (.slice a1 H.row.length c1) (.slice a2 H.roots.length c2) (.slice a3 H.mourned.length c3) (.slice a4 H.seen.length c4)
  have HT0 : Hid _ := T0
  have HB0 : Hid _ := B0
  have HH0 : Hid _ := hpAt_below h B0
  obtain ⟨⟨z0, z1, z2, z3, z4⟩, ⟨z5, z6, z7, z8⟩, _⟩ := nine_cells T0
  have HK := sHeapOk_any HH0.out hs
  rcases hL with ⟨dr, rfl⟩ | ⟨dr, hL⟩
  · rw [dr] at HK
    clear B0 T0 h dr
    go_enter Tryz.func23, Tryz.ntmps23
    go_wp2_with (go_at_call 33; refine HK.mono ?_; clear HK; rintro e w2 ⟨rfl, b2⟩; have HBE : Hid _ := HB0.out.trans (b2.mono HB0.out.size); clear b2)
    go_ret
    exact ⟨_, rfl, own_nothing w2 _ HBE.out.size, HBE.out.alloc HBE.out.size _⟩
  · rw [dr] at HK
    obtain ⟨ps, R⟩ := rt_of (ok_right dr).1
    have HOB : Hid (∀ V, HpAt V (.slice a1 H.row.length c1) (.slice a2 H.roots.length c2) (.slice a3 H.mourned.length c3) (.slice a4 H.seen.length c4) H → Calls Tryz.prog 47 #[hpv H (.slice a1 H.row.length c1) (.slice a2 H.roots.length c2) (.slice a3 H.mourned.length c3) (.slice a4 H.seen.length c4)] V fun e w' => ∃ v', e = .returned v' ∧ rows.Own w' V.heap.size v' L ∧ Below V.heap.size V w') := fun V hV => l13Marks_any hV R hL
    clear B0 T0 h dr R hL
    go_enter Tryz.func23, Tryz.ntmps23
    go_wp2_with (first
      | (go_at_call 33; refine HK.mono ?_; clear HK z0 z1 z2 z3 z4 z5 z6 z7 z8; rintro e w2 ⟨rfl, b2⟩; have HB2 : Hid _ := HB0.out.trans (b2.mono HB0.out.size); obtain ⟨⟨z0, z1, z2, z3, z4⟩, ⟨z5, z6, z7, z8⟩, _⟩ := nine_cells (nine_below HT0.out b2); have OB := HOB.out w2 (hpAt_below HH0.out b2); clear b2 HOB)
      | (go_at_call 47; refine OB.mono ?_; clear OB; rintro e w3 ⟨v3, rfl, O3, b3⟩; have HO3 : Hid _ := own_base O3 HB2.out.size; have HB3 : Hid _ := HB2.out.trans (b3.mono HB2.out.size); obtain ⟨oa, on, oc, rfl⟩ := ints_slice (own_ints O3); clear O3 b3))
    go_ret
    exact ⟨_, rfl, HO3.out, HB3.out⟩
theorem field_slotsM (s f c h : Int) (p m : Bool) (w : World) : (Instr.field 69 (hv s f c h p m) 0).run Tryz.prog w = .ok (.int .i64 s) w := rfl
theorem objsOk_ps {H : Hp} {ps : List Int} (h : heapOk H = true) (R : Rt H ps) : objsOk H = objL H ps := by unfold objsOk; rw [if_pos h, R.some', Option.getD_some]
set_option maxHeartbeats 16000000 in
theorem sGarbage_any {w : World} {vr vo vm vs : Value} {H : Hp} (h : HpAt w vr vo vm vs H) (hs : hpSize H ≤ 1048576) {L : List Int} (hL : IsMarksOk H L) :
    Calls Tryz.prog 28 #[hpv H vr vo vm vs] w fun e w' => ∃ v', e = .returned v' ∧ rows.Own w' w.heap.size v' (garbL H L) ∧ Below w.heap.size w w' := by
  obtain ⟨a1, c1, a2, c2, a3, c3, a4, c4, e1, e2, e3, e4⟩ := hpAt_slices h
  subst e1 e2 e3 e4
  have B0 : Below w.heap.size w ((w.alloc (hpb H (.slice a1 H.row.length c1) (.slice a2 H.roots.length c2) (.slice a3 H.mourned.length c3) (.slice a4 H.seen.length c4))).alloc (.cells #[] 2)) := ((Below.refl _ _).alloc (Nat.le_refl _) _).alloc (by simp) _
  have HO0 : Hid (rows.Own ((w.alloc (hpb H (.slice a1 H.row.length c1) (.slice a2 H.roots.length c2) (.slice a3 H.mourned.length c3) (.slice a4 H.seen.length c4))).alloc (.cells #[] 2)) w.heap.size (.slice (some ⟨w.heap.size + 1, 0, none⟩) 0 0) []) := own_nothing2 (by simp) (by omega)
  have T0 : Nine ((w.alloc (hpb H (.slice a1 H.row.length c1) (.slice a2 H.roots.length c2) (.slice a3 H.mourned.length c3) (.slice a4 H.seen.length c4))).alloc (.cells #[] 2)) w.heap.size 31 (.int .i64 H.half) (.int .i64 H.old) (.slice a1 H.row.length c1) (.int .i64 H.side) (.int .i64 H.top) (.slice a2 H.roots.length c2) (.slice a3 H.mourned.length c3) (.slice a4 H.seen.length c4) (.int .i64 H.seed) := nine_below (nine_new w H _ _ _ _) ((Below.refl _ _).alloc (Nat.le_refl _) _)
  have HT0 : Hid _ := T0
  have HB0 : Hid _ := B0
  have HH0 : Hid _ := hpAt_below h B0
  have HXZ : Hid (w.heap.size + 2 ≤ ((w.alloc (hpb H (.slice a1 H.row.length c1) (.slice a2 H.roots.length c2) (.slice a3 H.mourned.length c3) (.slice a4 H.seen.length c4))).alloc (.cells #[] 2)).heap.size) := by show _ ≤ _; simp
  obtain ⟨⟨z0, z1, z2, z3, z4⟩, ⟨z5, z6, z7, z8⟩, _⟩ := nine_cells T0
  have HK := sHeapOk_any HH0.out hs
  rcases hL with ⟨dr, rfl⟩ | ⟨dr, hL⟩
  · rw [dr] at HK
    have eG : garbL H [] = [] := by unfold garbL objsOk; rw [if_neg (by rw [dr]; decide)]; rfl
    rw [eG]
    clear B0 T0 h dr eG
    go_enter Tryz.func28, Tryz.ntmps28
    go_wp2_with fail
    generalize ((w.alloc (hpb H (.slice a1 H.row.length c1) (.slice a2 H.roots.length c2) (.slice a3 H.mourned.length c3) (.slice a4 H.seen.length c4))).alloc (.cells #[] 2)) = X at *
    refine HK.mono ?_
    clear HK
    rintro e w2 ⟨rfl, b2⟩
    have HBE : Hid _ := HB0.out.trans (b2.mono HB0.out.size)
    have HOE : Hid _ := own_below HO0.out b2
    clear b2 z0 z1 z2 z3 z4 z5 z6 z7 z8
    go_wp2_with fail
    go_ret
    exact ⟨_, rfl, HOE.out, HBE.out⟩
  · rw [dr] at HK
    obtain ⟨ps, R⟩ := rt_of (ok_right dr).1
    have hLl := R.marks_len hL.1 (fun a ha => (hL.2 a).1 ha)
    have hol : (objL H ps).length ≤ 500 := Nat.le_trans (objL_len _ _) (places_plc R.some').2
    have HGL : Hid (garbL H L = keepQ (fun x => decide (x ∈ L)) (objL H ps)) := by show _ = _; unfold garbL; rw [objsOk_ps dr R]
    have HMA : Hid (∀ V, HpAt V (.slice a1 H.row.length c1) (.slice a2 H.roots.length c2) (.slice a3 H.mourned.length c3) (.slice a4 H.seen.length c4) H → Calls Tryz.prog 47 #[hpv H (.slice a1 H.row.length c1) (.slice a2 H.roots.length c2) (.slice a3 H.mourned.length c3) (.slice a4 H.seen.length c4)] V fun e w' => ∃ v', e = .returned v' ∧ rows.Own w' V.heap.size v' L ∧ Below V.heap.size V w') := fun V hV => l13Marks_any hV R hL
    have HOB : Hid (∀ V, HpAt V (.slice a1 H.row.length c1) (.slice a2 H.roots.length c2) (.slice a3 H.mourned.length c3) (.slice a4 H.seen.length c4) H → Calls Tryz.prog 49 #[hpv H (.slice a1 H.row.length c1) (.slice a2 H.roots.length c2) (.slice a3 H.mourned.length c3) (.slice a4 H.seen.length c4)] V fun e w' => ∃ v', e = .returned v' ∧ rows.Own w' V.heap.size v' (objL H ps) ∧ Below V.heap.size V w') := fun V hV => l9Objects_any hV R.some'
    obtain ⟨G, hG⟩ : ∃ G, garbL H L = G := ⟨_, rfl⟩
    rw [hG] at HGL ⊢
    clear B0 T0 h dr R hL hG
    generalize objL H ps = os at *
    go_enter Tryz.func28, Tryz.ntmps28
    go_wp2_with fail
    generalize ((w.alloc (hpb H (.slice a1 H.row.length c1) (.slice a2 H.roots.length c2) (.slice a3 H.mourned.length c3) (.slice a4 H.seen.length c4))).alloc (.cells #[] 2)) = X at *
    refine HK.mono ?_
    clear HK z0 z1 z2 z3 z4 z5 z6 z7 z8
    rintro e w2 ⟨rfl, b2⟩
    have HB2 : Hid _ := HB0.out.trans (b2.mono HB0.out.size)
    have HO2 : Hid _ := own_below HO0.out b2
    have HT2 : Hid _ := nine_below HT0.out b2
    have HH2 : Hid _ := hpAt_below HH0.out b2
    have sz2 := b2.size
    obtain ⟨⟨z0, z1, z2, z3, z4⟩, ⟨z5, z6, z7, z8⟩, _⟩ := nine_cells HT2.out
    have OB := HMA.out w2 HH2.out
    clear b2 HMA HB0 HO0 HT0 HH0
    go_wp2_with fail
    refine OB.mono ?_
    clear OB z0 z1 z2 z3 z4 z5 z6 z7 z8
    rintro e w3 ⟨v3, rfl, O3, b3⟩
    have HB3 : Hid _ := HB2.out.trans (b3.mono HB2.out.size)
    have HO3 : Hid _ := own_below HO2.out b3
    have HM3 : Hid _ := O3
    have HMZ : Hid (w.heap.size + 2 ≤ w2.heap.size ∧ w2.heap.size ≤ w3.heap.size) := ⟨Nat.le_trans HXZ.out sz2, b3.size⟩
    obtain ⟨⟨z0, z1, z2, z3, z4⟩, ⟨z5, z6, z7, z8⟩, _⟩ := nine_cells (nine_below HT2.out b3)
    have OB := HOB.out w3 (hpAt_below HH2.out b3)
    obtain ⟨ma, mn, mc, rfl⟩ := ints_slice (own_ints O3)
    clear b3 O3 HB2 HO2 HT2 HH2 HOB
    go_wp2_with fail
    refine OB.mono ?_
    clear OB z0 z1 z2 z3 z4 z5 z6 z7 z8
    rintro e w4 ⟨v4, rfl, O4, b4⟩
    have HB4 : Hid _ := HB3.out.trans (b4.mono HB3.out.size)
    have HO4 : Hid _ := own_below HO3.out b4
    have HP4 : Hid _ := O4
    have HM4 : Hid _ := own_below HM3.out b4
    have HPB : Hid (∀ k ∈ blk v4, k ≠ w.heap.size + 1 ∧ k < w4.heap.size) := fun k hk => by have := blk_lt O4 k hk; have := HMZ.out; omega
    have HMB : Hid (∀ k ∈ blk (.slice ma mn mc), k ≠ w.heap.size + 1 ∧ k < w4.heap.size) := fun k hk => by have := blk_lt HM3.out k hk; have := HMZ.out; have := b4.size; omega
    obtain ⟨pa, pc, hv4⟩ : ∃ a c, v4 = .slice a os.length c := by
      obtain ⟨a, c, e, _⟩ := own_ints O4
      exact ⟨a, c, e⟩
    subst hv4
    clear b4 O4 HB3 HO3 HM3
    go_wp2_with fail
    go_loopw [3, 6] (fun o p wr => ∃ (k : Nat) (v : Value), v = o ∧ k ≤ os.length ∧ p = .int .i64 (k : Int) ∧ rows.Own wr w.heap.size v (keepQ (fun x => decide (x ∈ L)) (os.take k)) ∧ Ch [w.heap.size + 1] w4 wr ∧ ∀ q ∈ blk v, q = w.heap.size + 1 ∨ w4.heap.size ≤ q) (fun _ p _ => os.length - (intOf p).toNat)
    case atStart => exact ⟨0, _, rfl, Nat.zero_le _, rfl, by rw [List.take_zero]; exact HO4.out, Ch.refl _ _, fun q hq => .inl (by simpa [blk, Value.ownBlock] using hq)⟩
    case round =>
      obtain ⟨k, v, rfl, hk, rfl, hO, hC, hK⟩ := hrel
      have HO : Hid _ := hO
      have HC : Hid _ := hC
      have HQ : Hid _ := hK
      have HML : Hid _ := row_ch HM4.out hC (fun q hq hc => (HMB.out q hq).1 (by simpa using hc))
      have HPL : Hid _ := row_ch HP4.out hC (fun q hq hc => (HPB.out q hq).1 (by simpa using hc))
      have hkl : (keepQ (fun x => decide (x ∈ L)) (os.take k)).length ≤ 500 := Nat.le_trans (List.length_filter_le _ _) (by rw [List.length_take]; omega)
      obtain ⟨va, vn, vc, hvv⟩ := ints_slice (own_ints hO)
      subst hvv
      by_cases hlt : k < os.length
      · have hlt' : (k : Int) < (os.length : Int) := by omega
        obtain ⟨lb, lo, ea, hlb, x0⟩ := ints_cell (own_ints HPL.out) hlt
        subst ea
        have HS := l1Has_any (own_ints HML.out) (by omega) (os.getD k 0)
        have HNX : Hid _ := keepQ_next (q := fun x => decide (x ∈ L)) hlt
        clear hO hC hK
        by_cases hin : os.getD k 0 ∈ L
        · rw [decide_eq_true hin] at HS
          have HE : Hid _ := HNX.out
          simp only [decide_eq_true hin, if_true, List.append_nil] at HE
          clear hin HNX
          generalize os.getD k 0 = x at *
          go_wp2_with (go_at_call 50; refine HS.mono ?_; clear HS; rintro e w5 ⟨rfl, hw5⟩; rw [hw5]; clear hw5 w5)
          exact ⟨⟨k + 1, _, rfl, by omega, by go_num, by rw [HE.out]; exact HO.out, HC.out, HQ.out⟩, by simp [intOf]; omega⟩
        · rw [decide_eq_false hin] at HS
          have HE : Hid _ := HNX.out
          simp only [decide_eq_false hin, Bool.false_eq_true, if_false] at HE
          clear hin HNX
          obtain ⟨x, hx⟩ : ∃ x, os.getD k 0 = x := ⟨_, rfl⟩
          rw [hx] at x0 HS HE
          clear hx
          have B5 : Below wr.heap.size wr (wr.alloc (.cells #[.int .i64 x] 2)) := (Below.refl _ _).alloc (Nat.le_refl _) _
          have HOX : Hid _ := own_below HO.out B5
          have HVB : Hid ((wr.alloc (.cells #[.int .i64 x] 2)).heap[wr.heap.size]? = some (.cells #[.int .i64 x] 2 (0, 0))) := heap_alloc_new wr _
          have hbs : w.heap.size ≤ (wr.alloc (.cells #[.int .i64 x] 2)).heap.size := Nat.le_trans (Nat.le_trans HB4.out.size HC.out.size) B5.size
          have HB5 : Hid _ := B5
          clear B5
          generalize hks : keepQ (fun x => decide (x ∈ L)) (os.take k) = ks at *
          clear hks
          go_wp2_with (first
            | (go_at_call 50; refine HS.mono ?_; clear HS; rintro e w5 ⟨rfl, hw5⟩; rw [hw5]; clear hw5 w5)
            | (at_builtin; refine wpList_appG (base := w.heap.size) (vb := wr.heap.size) hbs HOX.out HVB.out (by omega) rfl _ _ rfl rfl rfl ?_; intro a6 c6 w6 hO6 hC6 hK6; have HO6 : Hid _ := hO6; have HC6 : Hid _ := hC6; have HK6 : Hid _ := hK6; clear hO6 hC6 hK6))
          refine ⟨⟨k + 1, _, rfl, by omega, by go_num, ?_, ?_, fun q hq => ?_⟩, by simp [intOf]; omega⟩
          · rw [HE.out]
            show World.ownsRow _ _ _ _ _ _ _
            rw [List.length_append]
            exact HO6.out
          · refine ⟨HC6.out.os.trans (HB5.out.os.trans HC.out.os), HC6.out.tape.trans (HB5.out.tape.trans HC.out.tape), HC6.out.output.trans (HB5.out.output.trans HC.out.output), Nat.le_trans HC.out.size (Nat.le_trans HB5.out.size HC6.out.size), fun q hq hn => ?_⟩
            have h1 : q < wr.heap.size := Nat.lt_of_lt_of_le hq HC.out.size
            have h2 : q ∉ blk (Value.slice va vn vc) := fun hc => by
              rcases HQ.out q hc with e | e
              · exact hn (by simp [e])
              · omega
            exact (HC6.out.block q (Nat.lt_of_lt_of_le h1 HB5.out.size) h2).trans ((HB5.out.block q h1).trans (HC.out.block q hq hn))
          · rcases HK6.out q hq with e | e
            · exact HQ.out q e
            · exact .inr (Nat.le_trans HC.out.size (Nat.le_trans HB5.out.size e))
      · have e : k = os.length := by omega
        subst e
        have hlt' : ¬ (os.length : Int) < (os.length : Int) := by omega
        have HE : Hid (keepQ (fun x => decide (x ∈ L)) (os.take os.length) = G) := by show _ = _; rw [List.take_length]; exact HGL.out.symm
        have HBE : Hid (Below w.heap.size w wr) := HB4.out.trans (below_ch hC HB4.out.size (fun q hq => by have e : q = w.heap.size + 1 := (by simpa using hq); omega))
        clear hO hC hK
        go_wp2
        go_ret
        exact ⟨_, rfl, by rw [← HE.out]; exact HO.out, HBE.out⟩
set_option maxHeartbeats 16000000 in
theorem sLiveWords_any {w : World} {vr vo vm vs : Value} {H : Hp} (h : HpAt w vr vo vm vs H) (hs : hpSize H ≤ 1048576) {L : List Int} (hL : IsMarksOk H L) :
    Calls Tryz.prog 30 #[hpv H vr vo vm vs] w fun e w' => e = .returned (.int .i64 (liveOk H L)) ∧ Below w.heap.size w w' := by
  obtain ⟨a1, c1, a2, c2, a3, c3, a4, c4, e1, e2, e3, e4⟩ := hpAt_slices h
  subst e1 e2 e3 e4
  have B0 : Below w.heap.size w (w.alloc (hpb H (.slice a1 H.row.length c1) (.slice a2 H.roots.length c2) (.slice a3 H.mourned.length c3) (.slice a4 H.seen.length c4))) := (Below.refl _ _).alloc (Nat.le_refl _) _
  have T0 := nine_new w H (.slice a1 H.row.length c1) (.slice a2 H.roots.length c2) (.slice a3 H.mourned.length c3) (.slice a4 H.seen.length c4)
  have HT0 : Hid _ := T0
  have HB0 : Hid _ := B0
  have HH0 : Hid _ := hpAt_below h B0
  obtain ⟨⟨z0, z1, z2, z3, z4⟩, ⟨z5, z6, z7, z8⟩, _⟩ := nine_cells T0
  have HK := sHeapOk_any HH0.out hs
  unfold liveOk
  rcases hL with ⟨dr, rfl⟩ | ⟨dr, hL⟩
  · rw [dr] at HK
    rw [if_neg (by rw [dr]; decide)]
    clear B0 T0 h dr
    go_enter Tryz.func30, Tryz.ntmps30
    go_wp2_with (go_at_call 33; refine HK.mono ?_; clear HK; rintro e w2 ⟨rfl, b2⟩; have HBE : Hid _ := HB0.out.trans (b2.mono HB0.out.size); clear b2)
    go_ret
    exact ⟨rfl, HBE.out⟩
  · rw [dr] at HK
    rw [if_pos dr]
    obtain ⟨ps, R⟩ := rt_of (ok_right dr).1
    have hLl := R.marks_len hL.1 (fun a ha => (hL.2 a).1 ha)
    have hrl := R.len
    have HOB : Hid (∀ V, HpAt V (.slice a1 H.row.length c1) (.slice a2 H.roots.length c2) (.slice a3 H.mourned.length c3) (.slice a4 H.seen.length c4) H → Calls Tryz.prog 47 #[hpv H (.slice a1 H.row.length c1) (.slice a2 H.roots.length c2) (.slice a3 H.mourned.length c3) (.slice a4 H.seen.length c4)] V fun e w' => ∃ v', e = .returned v' ∧ rows.Own w' V.heap.size v' L ∧ Below V.heap.size V w') := fun V hV => l13Marks_any hV R hL
    have HPL : Hid (∀ k, k < L.length → ∃ j : Nat, L.getD k 0 = (j : Int) ∧ j < H.row.length ∧ chunk H.row j = sz (uS (H.row.getD j 0)) ∧ 0 ≤ uS (H.row.getD j 0) ∧ uS (H.row.getD j 0) ≤ 20) := fun k hk => by
      have hm : L.getD k 0 ∈ L := by rw [List.getD_eq_getElem?_getD, List.getElem?_eq_getElem hk]; exact List.getElem_mem hk
      obtain ⟨o1, o2, o3⟩ := R.mk_at ((hL.2 _).1 hm)
      obtain ⟨j, ej, hj, hc⟩ := R.plc _ o1
      rw [ej] at o2 o3
      unfold fm at o2 o3
      rw [Int.toNat_natCast] at o2 o3
      obtain ⟨s1, s2⟩ := uS_bounds (H.row.getD j 0)
      refine ⟨j, ej, hj, ?_, s1, s2⟩
      unfold chunk at hc ⊢
      by_cases h0 : (ok (H.row.getD j 0) && !uM (H.row.getD j 0)) = true
      · rw [if_pos h0, if_neg o2] at hc ⊢
        by_cases h3 : (j : Int) + sz (uS (H.row.getD j 0)) ≤ H.row.length ∧ (uF (H.row.getD j 0) = 7 → isA (H.row.getD (j + 1) 0) = true)
        · rw [if_pos h3]
        · rw [if_neg h3] at hc; exact absurd rfl hc
      · rw [if_neg h0] at hc; exact absurd rfl hc
    have HBD : Hid (∀ k, k ≤ L.length → 0 ≤ liveN H (L.take k) ∧ liveN H (L.take k) ≤ 500000) := fun k hk => by
      have e := liveN_bound (H := H) (L := L.take k)
      have l4 : (L.take k).length ≤ 500 := by rw [List.length_take]; omega
      have : ((L.take k).length : Int) * (H.row.length : Int) ≤ 500 * 1000 := Int.mul_le_mul (by omega) (by omega) (by omega) (by omega)
      omega
    clear B0 T0 h dr R hL
    go_enter Tryz.func30, Tryz.ntmps30
    go_wp2_with fail
    generalize (w.alloc (hpb H (.slice a1 H.row.length c1) (.slice a2 H.roots.length c2) (.slice a3 H.mourned.length c3) (.slice a4 H.seen.length c4))) = X at *
    refine HK.mono ?_
    clear HK z0 z1 z2 z3 z4 z5 z6 z7 z8
    rintro e w2 ⟨rfl, b2⟩
    have HB2 : Hid _ := HB0.out.trans (b2.mono HB0.out.size)
    have HT2 : Hid _ := nine_below HT0.out b2
    have HH2 : Hid _ := hpAt_below HH0.out b2
    obtain ⟨⟨z0, z1, z2, z3, z4⟩, ⟨z5, z6, z7, z8⟩, _⟩ := nine_cells HT2.out
    have OB := HOB.out w2 HH2.out
    clear b2 HOB HB0 HT0 HH0
    go_wp2_with fail
    refine OB.mono ?_
    clear OB z0 z1 z2 z3 z4 z5 z6 z7 z8
    rintro e w3 ⟨v3, rfl, O3, b3⟩
    have HB3 : Hid _ := HB2.out.trans (b3.mono HB2.out.size)
    have HT3 : Hid _ := nine_below HT2.out b3
    have HH3 : Hid _ := hpAt_below HH2.out b3
    have HM3 : Hid _ := own_ints O3
    obtain ⟨ma, mc, hv3⟩ : ∃ a c, v3 = .slice a L.length c := by
      obtain ⟨a, c, e, _⟩ := own_ints O3
      exact ⟨a, c, e⟩
    subst hv3
    clear b3 O3 HB2 HT2 HH2
    go_wp2_with fail
    go_loopw [3, 5] (fun s p wr => ∃ k : Nat, k ≤ L.length ∧ p = .int .i64 (k : Int) ∧ s = .int .i64 (liveN H (L.take k)) ∧ Below w3.heap.size w3 wr) (fun _ p _ => L.length - (intOf p).toNat)
    case atStart => exact ⟨0, Nat.zero_le _, rfl, by simp [liveN], Below.refl _ _⟩
    case round =>
      obtain ⟨k, hk, rfl, rfl, hB⟩ := hrel
      have HB : Hid _ := hB
      by_cases hlt : k < L.length
      · obtain ⟨j, ej, hjl, hch, s1, s2⟩ := HPL.out k hlt
        obtain ⟨lb, lo, ea, hlb, x0⟩ := ints_cell (intsAt_below HM3.out hB) hlt
        subst ea
        have HNX : Hid (liveN H (L.take (k + 1)) = liveN H (L.take k) + sz (uS (H.row.getD j 0))) := by show _ = _; rw [liveN_next hlt, ej, Int.toNat_natCast, hch]
        have hb0 := HBD.out k hk
        have sb := sz_bounds s1 s2
        rw [ej] at x0
        obtain ⟨⟨z0, z1, z2, z3, z4⟩, ⟨z5, z6, z7, z8⟩⟩ := nine_grow (nine_below HT3.out hB)
        have Y0 := cell_grow x0
        have HL4 : Hid (∀ x : Ext wr.heap.size wr, Calls Tryz.prog 55 #[.slice a1 H.row.length c1, .int .i64 (j : Int)] x.to fun e w'' => e = .returned (hv (uS (H.row.getD j 0)) (uF (H.row.getD j 0)) (uC (H.row.getD j 0)) (uH (H.row.getD j 0)) (uP (H.row.getD j 0)) (uM (H.row.getD j 0))) ∧ ∃ y : Ext wr.heap.size wr, w'' = y.to) := fun x => calls_grow (Nat.le_refl _) (l4Head_any (intsAt_below (hpAt_below HH3.out hB).1 x.below) j hjl)
        have HL2 : Hid (∀ x : Ext wr.heap.size wr, Calls Tryz.prog 54 #[.int .i64 (uS (H.row.getD j 0))] x.to fun e w'' => e = .returned (.int .i64 (sz (uS (H.row.getD j 0)))) ∧ ∃ y : Ext wr.heap.size wr, w'' = y.to) := fun x => (l2Size_any _ _ s1 s2).mono fun e w' ⟨he, hw⟩ => ⟨he, x, hw⟩
        have hlt' : (k : Int) < (L.length : Int) := by omega
        have hsb : 0 ≤ sz (uS (H.row.getD j 0)) ∧ sz (uS (H.row.getD j 0)) ≤ 100 := by omega
        clear hB hch ej sb s1 s2
        generalize sz (uS (H.row.getD j 0)) = zz at *
        generalize uF (H.row.getD j 0) = f at *
        generalize uS (H.row.getD j 0) = s at *
        generalize uC (H.row.getD j 0) = c at *
        generalize uH (H.row.getD j 0) = g at *
        generalize uP (H.row.getD j 0) = p at *
        generalize uM (H.row.getD j 0) = m at *
        generalize liveN H (L.take k) = ss at *
        have FF := field_slotsM s f c g p m
        have hwr : IntKind.i64.wrap (ss + zz) = ss + zz := by rw [IntKind.wrap_i64]; omega
        go_upto_region 8 with fail
        haveI := ext_any wr
        refine region_grow (n := wr.heap.size) (by kernel_rfl) (by kernel_rfl) ?_
        repeat (go_big_quiet_step (first | (go_at_call 55; exact HL4.out _) | (go_at_call 54; exact HL2.out _)))
        refine wpQuiet_nil ?_
        intro _ hw'
        obtain ⟨E, rfl⟩ := hw'
        have HBx : Hid _ := HB.out.trans (E.below.mono HB.out.size)
        clear z0 z1 z2 z3 z4 z5 z6 z7 z8 Y0 HL4 HL2 HB x0
        generalize E.to = W at *
        clear E this
        go_wp2
        exact ⟨⟨k + 1, by omega, by go_num, by rw [HNX.out], HBx.out⟩, by simp [intOf]; omega⟩
      · have e : k = L.length := by omega
        subst e
        have hlt' : ¬ (L.length : Int) < (L.length : Int) := by omega
        rw [List.take_length]
        have HBE : Hid _ := HB3.out.trans (hB.mono HB3.out.size)
        clear hB
        obtain ⟨ss, hss⟩ : ∃ ss, liveN H L = ss := ⟨_, rfl⟩
        rw [hss]
        have HSS : Hid _ := hss
        clear hss
        go_wp2
        go_ret
        exact ⟨by rw [HSS.out]; rfl, HBE.out⟩
end Go.Proofs.YtmhbdmmpmagbkaaGreat.hp
