/-
  Chapter 14 as the program has it: Nilled.
  Made from the template NilI4.
-/
import Derived.Test.YtacilbilnbmcbaaGreatDoorM27
import Derived.Test.YtacilbilnbmcbaaGreatDoorM26
import Derived.Test.YtacilbilnbmcbaaGreatDoorMarkI5
import Derived.Test.YtacilbilnbmcbaaGreatDoorM25
namespace Go.Proofs.YtacilbilnbmcbaaGreatDoor.hp
open Go.RowKit rows heads words walks
set_option maxRecDepth 100000
set_option linter.unusedVariables false
set_option linter.unusedSimpArgs false

/-- Which words were seen through ahead of the i-th object. -/
def sxW (H : Hp) (ps L : List Int) (i : Nat) : Nat → Bool := covW H (((objL H ps).take i).filter (fun a => decide (a ∈ L)))
theorem sxW_zero (H : Hp) (ps L : List Int) : sxW H ps L 0 = fun _ => false := by funext q; simp [sxW, covW]
theorem sxW_next {H : Hp} {ps L : List Int} {i : Nat} {p : Int} (hi : i < (objL H ps).length) (hp : (objL H ps).getD i 0 = p) (q : Nat) : sxW H ps L (i + 1) q = (sxW H ps L i q || (decide (p ∈ L) && wkP H p q)) := by
  unfold sxW covW
  rw [List.take_add_one, List.filter_append, List.any_append, List.getElem?_eq_getElem hi]
  have e : (objL H ps)[i] = p := by
    rw [List.getD_eq_getElem?_getD, List.getElem?_eq_getElem hi] at hp
    exact hp
  rw [e]
  by_cases h : p ∈ L
  · simp [h]
  · simp [h]
theorem sxW_end {H : Hp} {ps L : List Int} (h : ∀ p ∈ L, p ∈ objL H ps) (q : Nat) : sxW H ps L (objL H ps).length q = covW H L q := by
  unfold sxW
  rw [List.take_length]
  refine covW_mem (fun p => ?_) q
  rw [List.mem_filter]
  exact ⟨fun hh => by simpa using hh.2, fun hh => ⟨h p hh, by simpa using hh⟩⟩
theorem all_nilP {H : Hp} (hr : AllI H.row) (L : List Int) (S : Nat → Bool) : AllI (nilP H L S) := by
  intro x hx
  unfold nilP at hx
  obtain ⟨q, hq, rfl⟩ := List.mem_map.1 hx
  have hq' := List.mem_range.1 hq
  have hb : I64 (H.row.getD q 0) := by rw [List.getD_eq_getElem?_getD, List.getElem?_eq_getElem hq']; exact hr _ (List.getElem_mem hq')
  split
  · unfold nilW
    split
    · exact ⟨by decide, by decide⟩
    · exact hb
  · exact hb
set_option maxHeartbeats 64000000 in
theorem implNilled {H : Hp} {L : List Int} (hI : HpI H) (hM : IsMarksOk H L) (w : World) (vr vo vm vs : Value) {pW pN : Addr} (hG : Glob w pW pN) (h : HpAt w vr vo vm vs H) (hs : hpSize H ≤ 1048576) :
    Calls Tryz.prog 13 #[hpv H vr vo vm vs] w fun e w' => ∃ (o' r' m' s' : Value), e = .returned (hpv (nilOk H L) o' r' m' s') ∧ OwnH w' w.heap.size o' r' m' s' (nilOk H L) ∧ Below w.heap.size w w' := by
  obtain ⟨a1, c1, a2, c2, a3, c3, a4, c4, e1, e2, e3, e4⟩ := hpAt_slices h
  subst e1 e2 e3 e4
  have B0 : Below w.heap.size w (w.alloc (hpb H (.slice a1 H.row.length c1) (.slice a2 H.roots.length c2) (.slice a3 H.mourned.length c3) (.slice a4 H.seen.length c4))) := (Below.refl _ _).alloc (Nat.le_refl _) _
  have B1 := B0.alloc B0.size (hpb ⟨0, 0, [], 0, 0, [], [], [], 0⟩ (.slice none 0 0) (.slice none 0 0) (.slice none 0 0) (.slice none 0 0))
  have HALL : Hid (∃ X, X = (w.alloc (hpb H (.slice a1 H.row.length c1) (.slice a2 H.roots.length c2) (.slice a3 H.mourned.length c3) (.slice a4 H.seen.length c4))).alloc (hpb ⟨0, 0, [], 0, 0, [], [], [], 0⟩ (.slice none 0 0) (.slice none 0 0) (.slice none 0 0) (.slice none 0 0)) ∧ Nine X w.heap.size 26 (.int .i64 H.half) (.int .i64 H.old) (.slice a1 H.row.length c1) (.int .i64 H.side) (.int .i64 H.top) (.slice a2 H.roots.length c2) (.slice a3 H.mourned.length c3) (.slice a4 H.seen.length c4) (.int .i64 H.seed) ∧ Nine X (w.heap.size + 1) 26 (.int .i64 0) (.int .i64 0) (.slice none 0 0) (.int .i64 0) (.int .i64 0) (.slice none 0 0) (.slice none 0 0) (.slice none 0 0) (.int .i64 0) ∧ Below w.heap.size w X ∧ HpAt X (.slice a1 H.row.length c1) (.slice a2 H.roots.length c2) (.slice a3 H.mourned.length c3) (.slice a4 H.seen.length c4) H) :=
    ⟨_, rfl, heap_alloc2_old _ _ _, heap_alloc2_new _ _ _, B1, hpAt_below h B1⟩
  have HG : Hid _ := hG
  have HS : Hid _ := hs
  have HII : Hid _ := hI
  clear B0 B1 hs hI hG
  cases dr : heapOk H
  · have e : nilOk H L = hp0 := by unfold nilOk; rw [if_neg (by rw [dr]; decide)]
    rw [e]
    have HDR : Hid _ := dr
    clear h hM dr e
    go_enter Tryz.func13, Tryz.ntmps13
    go_upto_region 1 with fail
    obtain ⟨X, hX, T0, T1, BX, AX⟩ := HALL.out
    rw [← hX]
    clear hX HALL
    obtain ⟨⟨z0, z1, z2, z3, z4⟩, ⟨z5, z6, z7, z8⟩, _⟩ := nine_cells T0
    have EN := entered_any AX HS.out HII.out (HG.out.below BX)
    unfold EntR at EN
    have R0 := EN.mono (fun e w' (g : _ ∧ _ ∧ _) => (⟨g.1 HDR.out, g.2.2⟩ : e = .returned (.tuple #[hov0, refV (-1) pW]) ∧ Below _ _ w'))
    have HT1 : Hid _ := T1
    have HBX : Hid _ := BX
    clear EN T0 T1 BX AX
    go_upto_region 2 with (go_at_call 19; refine R0.mono ?_; clear R0 z0 z1 z2 z3 z4 z5 z6 z7 z8; rintro e w1 ⟨rfl, b1⟩; have HB1 : Hid _ := b1; clear b1)
    have HB2 : Hid _ := HB1.out.alloc HB1.out.size (hob hz s0 s0 s0 s0 0 s0)
    generalize w1.alloc (hob hz s0 s0 s0 s0 0 s0) = Y at *
    have HBY : Hid _ := HBX.out.trans (HB2.out.mono HBX.out.size)
    have gw := (HG.out.below HBY.out).wrong
    have IW := er.is_wrapped (-1) pW Y
    go_upto_region 3 with (go_at_call 20; refine IW.mono ?_; clear IW gw; rintro e w2 ⟨rfl, b2⟩; have HB3 : Hid _ := HB2.out.trans (b2.mono HB2.out.size); clear b2)
    have HN1 : Hid _ := nine_below HT1.out HB3.out
    have HBE : Hid _ := HBX.out.trans (HB3.out.mono HBX.out.size)
    obtain ⟨⟨y0, y1, y2, y3, y4⟩, ⟨y5, y6, y7, y8⟩, yf⟩ := nine_cells HN1.out
    have f0 := yf 0
    have f1 := yf 1
    have f2 := yf 2
    have f3 := yf 3
    have f4 := yf 4
    have f5 := yf 5
    have f6 := yf 6
    have f7 := yf 7
    have f8 := yf 8
    clear yf HB2 HB3 HBY HT1 HB1
    go_wp2_with fail
    exact bodyPost_ret (res_heap rfl rfl (nine_sets HN1.out _ _ _ _ _ _ _ _ _)) rfl ⟨_, _, _, _, rfl, own0 _ _, nine_belows HBE.out (Nat.le_succ _) _ _ _ _ _ _ _ _ _⟩
  · have hL : IsMarks H L := by
      rcases hM with ⟨e, _⟩ | ⟨_, e⟩
      · rw [dr] at e; cases e
      · exact e
    have e : nilOk H L = nilF H L := by unfold nilOk; rw [if_pos dr]
    rw [e]
    obtain ⟨ps, FP⟩ := folP_of (a := a1) dr
    have hrt := (ok_right dr).1
    rw [← openB_is a1 H] at hrt
    obtain ⟨hn, hro, _⟩ := openB_parts hrt
    have N := (places_facts FP.rt.some').1
    have hrl := FP.rt.len
    have hpos : 0 < H.row.length := by have := N.len; have := N.half1; omega
    obtain ⟨b, off, ea, _, _⟩ := ints_cell h.1 hpos
    subst ea
    have hln : (objsP (some ⟨b, off, none⟩) H).length = (objL H ps).length := by
      have hpl := objs_places (a := some ⟨b, off, none⟩) dr
      rw [FP.rt.some', Option.getD_some] at hpl
      rw [← hpl]
      unfold plL
      rw [List.length_map]
    have HLN : Hid _ := hln
    have HRO : Hid (∀ V a5 c5, HpAt V (.slice (some ⟨b, off, none⟩) H.row.length c1) (.slice a2 H.roots.length c2) (.slice a3 H.mourned.length c3) (.slice a4 H.seen.length c4) H → PdsAt V (.slice a5 (objsP (some ⟨b, off, none⟩) H).length c5) (objsP (some ⟨b, off, none⟩) H) → RoomsAt V (.slice a5 (objsP (some ⟨b, off, none⟩) H).length c5) (objsP (some ⟨b, off, none⟩) H) (slP H.row)) := fun V a5 c5 hV hp => roomsAt_of hV.1 hn hro HII.out.2.1 hp
    have HMA : Hid (∀ V a5 c5, HpAt V (.slice (some ⟨b, off, none⟩) H.row.length c1) (.slice a2 H.roots.length c2) (.slice a3 H.mourned.length c3) (.slice a4 H.seen.length c4) H → RoomsAt V (.slice a5 (objsP (some ⟨b, off, none⟩) H).length c5) (objsP (some ⟨b, off, none⟩) H) (slP H.row) → Calls Tryz.prog 31 #[hov H (.slice (some ⟨b, off, none⟩) H.row.length c1) (.slice a2 H.roots.length c2) (.slice a3 H.mourned.length c3) (.slice a4 H.seen.length c4) (2 * H.half) (.slice a5 (objsP (some ⟨b, off, none⟩) H).length c5)] V fun e w' => ∃ u, e = .returned (.agg #[u]) ∧ rows.Own w' V.heap.size u L ∧ Below V.heap.size V w') := fun V a5 c5 hV hr => marks_any hV hr FP HII.out hrl (by have := N.roots; omega) (by have := N.mourned; omega) (fun i hi => by
      obtain ⟨j, e1, e2, _⟩ := objs_in hro _ (mem_getDP hi)
      exact ⟨j, e1, e2⟩) hL _
    have HOS : Hid (∀ i, i < (objsP (some ⟨b, off, none⟩) H).length → ∃ j sn : Nat, (objL H ps).getD i 0 = (j : Int) ∧ (objsP (some ⟨b, off, none⟩) H).getD i pdD = ⟨(sn : Int), uF (H.row.getD j 0), uC (H.row.getD j 0), uH (H.row.getD j 0), uP (H.row.getD j 0), uM (H.row.getD j 0), .slice (some ⟨b, off + j, none⟩) (chunk H.row j).toNat (chunk H.row j).toNat, (j : Int)⟩ ∧ (uF (H.row.getD j 0) = 1 → (slotsOf H (j : Int)).length = sn ∧ j + 1 + sn ≤ H.row.length ∧ ∀ k, k < sn → wordIn H ps (H.row.getD (j + 1 + k) 0) = true)) := fun i hi => by
      obtain ⟨j, q1, q2, q3, q4, q5, q6, q7⟩ := obj_step dr FP.rt hro hi
      obtain ⟨j', ed, hc, h6⟩ := objs_in hro _ (mem_getDP hi)
      have ej : j' = j := by
        have : ((objsP (some ⟨b, off, none⟩) H).getD i pdD).pl = (j' : Int) := by rw [ed]; rfl
        omega
      subst ej
      have qf := chunk_fits hc h6
      refine ⟨j', (uS (H.row.getD j' 0)).toNat, q4, ?_, fun h1 => ?_⟩
      · rw [ed]
        unfold pdOf
        rw [piece_at b off j' _ (by omega), Int.toNat_of_nonneg qf.1]
      · have h7 : uF (H.row.getD j' 0) ≠ 7 := by omega
        have hcn : cnS (H.row.getD j' 0) = uS (H.row.getD j' 0) := by unfold cnS; rw [if_neg h7, if_neg h6]
        have hl := slots_len (H := H) hc
        rw [hcn] at hl
        refine ⟨hl, by omega, fun k hk => ?_⟩
        have hg := slots_getD (H := H) (j := j') (k := k) (by rw [hcn]; exact hk)
        have hk' : k < (slotsOf H (j' : Int)).length := by omega
        rw [← hg]
        refine q7 _ ?_
        rw [List.getD_eq_getElem?_getD, List.getElem?_eq_getElem hk']; exact List.getElem_mem hk'
    have HFM : Hid (∀ j : Nat, fm H (j : Int) = uF (H.row.getD j 0)) := fun j => by unfold fm; rw [Int.toNat_natCast]
    have hll : L.length ≤ 500 := FP.rt.marks_len hL.1 (fun a ha => (hL.2 a).1 ha)
    have HFP : Hid _ := FP
    have HLM : Hid _ := hL
    have HMO : Hid _ := marks_objL FP.rt hL
    have HDR : Hid _ := dr
    have h1000 : (objsP (some ⟨b, off, none⟩) H).length ≤ 1000 := by
      rw [hln]
      exact Nat.le_trans (objL_len _ _) (by have := (places_plc FP.rt.some').2; omega)
    have hrows := hrl
    clear h hM dr e hrt hn hro N hpos hln hL FP
    go_enter Tryz.func13, Tryz.ntmps13
    go_upto_region 1 with fail
    obtain ⟨X, hX, T0, T1, BX, AX⟩ := HALL.out
    rw [← hX]
    clear hX HALL
    obtain ⟨⟨z0, z1, z2, z3, z4⟩, ⟨z5, z6, z7, z8⟩, _⟩ := nine_cells T0
    have EN := entered_any AX HS.out HII.out (HG.out.below BX)
    unfold EntR at EN
    have R0 := EN.mono (fun e w' (g : _ ∧ _ ∧ _) => (⟨g.2.1 HDR.out, g.2.2⟩ : (∃ a5 c5, e = .returned (.tuple #[hov H (.slice (some ⟨b, off, none⟩) H.row.length c1) (.slice a2 H.roots.length c2) (.slice a3 H.mourned.length c3) (.slice a4 H.seen.length c4) (2 * H.half) (.slice a5 (objsP (some ⟨b, off, none⟩) H).length c5), .nilIface]) ∧ OwnP w' _ (.slice a5 (objsP (some ⟨b, off, none⟩) H).length c5) (objsP (some ⟨b, off, none⟩) H)) ∧ Below _ _ w'))
    have HT0 : Hid _ := T0
    have HT1 : Hid _ := T1
    have HBX : Hid _ := BX
    have HAX : Hid _ := AX
    clear EN T0 T1 BX AX
    go_upto_region 2 with (go_at_call 19; refine R0.mono ?_; clear R0 z0 z1 z2 z3 z4 z5 z6 z7 z8; rintro e w1 ⟨⟨a5, c5, rfl, O1⟩, b1⟩; have HB1 : Hid _ := b1; have HO1 : Hid _ := ownP_at O1; clear b1 O1)
    have B2 : Below w1.heap.size w1 (w1.alloc (hob H (.slice (some ⟨b, off, none⟩) H.row.length c1) (.slice a2 H.roots.length c2) (.slice a3 H.mourned.length c3) (.slice a4 H.seen.length c4) (2 * H.half) (.slice a5 (objsP (some ⟨b, off, none⟩) H).length c5))) := (Below.refl _ _).alloc (Nat.le_refl _) _
    have HQU : Hid _ := heap_alloc_new w1 (hob H (.slice (some ⟨b, off, none⟩) H.row.length c1) (.slice a2 H.roots.length c2) (.slice a3 H.mourned.length c3) (.slice a4 H.seen.length c4) (2 * H.half) (.slice a5 (objsP (some ⟨b, off, none⟩) H).length c5))
    have HXU : Hid _ := HB1.out.trans (B2.mono HB1.out.size)
    have HPU : Hid _ := pdsAt_below HO1.out B2
    have hw1 := HB1.out.size
    clear B2 HO1 HB1
    generalize w1.alloc (hob H (.slice (some ⟨b, off, none⟩) H.row.length c1) (.slice a2 H.roots.length c2) (.slice a3 H.mourned.length c3) (.slice a4 H.seen.length c4) (2 * H.half) (.slice a5 (objsP (some ⟨b, off, none⟩) H).length c5)) = U at *
    have HHU : Hid _ := hpAt_below HAX.out HXU.out
    have HRU : Hid _ := HRO.out U a5 c5 HHU.out HPU.out
    have HBU : Hid _ := HBX.out.trans (HXU.out.mono HBX.out.size)
    have HGU : Hid _ := HG.out.below HBU.out
    have gw := HGU.out.wrong
    have IN := er.is_nil pW U
    have CP := copiedHeap_any HHU.out HS.out
    obtain ⟨⟨z0, z1, z2, z3, z4⟩, ⟨z5, z6, z7, z8⟩, _⟩ := nine_cells (nine_below HT0.out HXU.out)
    have hXs := lt_of_block HT1.out
    have hU1 := lt_of_block HQU.out
    clear HRO HAX
    generalize hDS : objsP (some ⟨b, off, none⟩) H = ds at *
    clear hDS
    go_upto_region 5 with (first
      | (go_at_call 20; refine IN.mono ?_; clear IN gw; rintro e w2 ⟨rfl, hw2⟩; rw [hw2]; clear hw2 w2)
      | (go_at_call 21; refine CP.mono ?_; clear CP z0 z1 z2 z3 z4 z5 z6 z7 z8; rintro e w2 ⟨g1, g2, g3, g4, rfl, O2, b2⟩; have HO2 : Hid _ := O2; have HB2 : Hid _ := b2; clear O2 b2))
    have SN := ss_new HO2.out
    have BV : Below w2.heap.size w2 (w2.alloc (hpb H (.slice (some ⟨g1, 0, none⟩) H.row.length H.row.length) (.slice (some ⟨g2, 0, none⟩) H.roots.length H.roots.length) (.slice (some ⟨g3, 0, none⟩) H.mourned.length H.mourned.length) (.slice (some ⟨g4, 0, none⟩) H.seen.length H.seen.length))) := (Below.refl _ _).alloc (Nat.le_refl _) _
    have HUV : Hid _ := HB2.out.trans (BV.mono HB2.out.size)
    have HGL : Hid _ := ownH_lt HO2.out
    have q1 := (HGL.out g1 (in_hblk.1 _ (by rw [blk_of]; simp))).1
    have q2 := (HGL.out g2 (in_hblk.2.1 _ (by rw [blk_of]; simp))).1
    have q3 := (HGL.out g3 (in_hblk.2.2.1 _ (by rw [blk_of]; simp))).1
    have hU2 := HB2.out.size
    have HDS : Hid _ := SN.1
    have HSN : Hid _ := SN.2
    clear SN BV HO2 HGL HB2
    generalize w2.alloc (hpb H (.slice (some ⟨g1, 0, none⟩) H.row.length H.row.length) (.slice (some ⟨g2, 0, none⟩) H.roots.length H.roots.length) (.slice (some ⟨g3, 0, none⟩) H.mourned.length H.mourned.length) (.slice (some ⟨g4, 0, none⟩) H.seen.length H.seen.length)) = V at *
    have MA := HMA.out V a5 c5 (hpAt_below HHU.out HUV.out) (HRU.out.below HUV.out)
    obtain ⟨⟨m0, m1, m2, m3, m4, m5, m6, m7, m8, m9, m10⟩, _⟩ := hob_cells ((HUV.out.block _ hU1).trans HQU.out)
    clear HMA
    go_upto_region 6 with (go_at_call 31; refine MA.mono ?_; clear MA m0 m1 m2 m3 m4 m5 m6 m7 m8 m9 m10; rintro e w3 ⟨u, rfl, O3, b3⟩; have HO3 : Hid _ := O3; have HB3 : Hid _ := b3; obtain ⟨la, lc, hu, _⟩ := own_ints O3; subst hu; clear O3 b3)
    have BZ : Below w3.heap.size w3 (w3.alloc (stb (.slice la L.length lc))) := (Below.refl _ _).alloc (Nat.le_refl _) _
    have HQZ : Hid ((w3.alloc (stb (.slice la L.length lc))).heap[w3.heap.size]? = some (stb (.slice la L.length lc))) := heap_alloc_new _ _
    have HSZ : Hid _ := ((HSN.out.below HB3.out).newList HO3.out).below BZ
    have HVZ : Hid _ := HB3.out.trans (BZ.mono HB3.out.size)
    have hV3 := HB3.out.size
    clear BZ HB3 HO3 HSN
    generalize w3.alloc (stb (.slice la L.length lc)) = Z at *
    have hZ3 := lt_of_block HQZ.out
    have hPd := HDS.out.lt
    obtain ⟨⟨_, _, _, _, _, _, _, _, _, _, m10⟩, _⟩ := hob_cells ((HVZ.out.block _ (Nat.lt_of_lt_of_le hU1 HUV.out.size)).trans ((HUV.out.block _ hU1).trans HQU.out))
    have hUV := HUV.out.size
    go_wp2_with fail
    clear m10
    go_loopw [8, 26] (fun _ q wr => ∃ i : Nat, i ≤ ds.length ∧ q = .int .i64 (i : Int) ∧ SS V wr w2.heap.size U.heap.size g1 g2 g3 H.row.length H.roots.length H.mourned.length H.row.length H.roots.length H.mourned.length (.slice (some ⟨g4, 0, none⟩) H.seen.length H.seen.length) (.slice la L.length lc) H L (nilP H L (sxW H ps L i)) H.roots H.mourned ∧ Ch [g1] Z wr) (fun _ q _ => ds.length - (intOf q).toNat)
    case atStart => exact ⟨0, Nat.zero_le _, rfl, by rw [sxW_zero, nilP_none]; exact HSZ.out, Ch.refl _ _⟩
    case round =>
      obtain ⟨i, hi, rfl, hS, hC⟩ := hrel
      clear HSZ
      have HUW : Hid (Below U.heap.size U wr) := HUV.out.trans (below_ch hS.ch HUV.out.size (fun k hk => by
        have e : k = w2.heap.size ∨ k = g1 ∨ k = g2 ∨ k = g3 := by simpa using hk
        omega))
      have HSW : Hid _ := hS
      have HCW : Hid _ := hC
      by_cases hlt : i < ds.length
      · have hlt' : (i : Int) < (ds.length : Int) := by omega
        obtain ⟨j, sn, hoj, hd, hwk⟩ := HOS.out i hlt
        obtain ⟨_, _, ev, _, _, _, hcs⟩ := pdsAt_below HPU.out HUW.out
        injection ev with ev1 _ ev3
        subst ev1 ev3
        obtain ⟨mg, mo, ev4, hmg, hcell⟩ := hcs (by omega)
        subst ev4
        have hcd := hcell i hlt
        rw [hd] at hcd
        obtain ⟨p0, p1, p2, p3, p4, p5, p6, p7⟩ := hcd
        simp only at p0 p1 p2 p3 p4 p5 p6 p7
        have HNX : Hid (∀ q, sxW H ps L (i + 1) q = (sxW H ps L i q || (decide ((j : Int) ∈ L) && wkP H (j : Int) q))) := fun q => sxW_next (by rw [← HLN.out]; exact hlt) hoj q
        have HFJ : Hid _ := HFM.out j
        have HWK : Hid _ := hwk
        clear hS hC hoj hd hwk hcs hcell
        generalize uF (H.row.getD j 0) = f at *
        generalize uC (H.row.getD j 0) = c at *
        generalize uH (H.row.getD j 0) = g at *
        generalize uP (H.row.getD j 0) = pb at *
        generalize uM (H.row.getD j 0) = mk at *
        generalize (chunk H.row j).toNat = cn at *
        go_upto_region 9 with fail
        clear p0 p1 p2 p3 p4 p5 p6 p7
        have BY : Below wr.heap.size wr (wr.alloc (pdb ⟨(sn : Int), f, c, g, pb, mk, .slice (some ⟨b, off + j, none⟩) cn cn, (j : Int)⟩)) := (Below.refl _ _).alloc (Nat.le_refl _) _
        have QY := heap_alloc_new wr (pdb ⟨(sn : Int), f, c, g, pb, mk, .slice (some ⟨b, off + j, none⟩) cn cn, (j : Int)⟩)
        have HSY : Hid _ := HSW.out.below BY
        have HCY : Hid _ := HCW.out.trans (ch_below BY)
        obtain ⟨⟨p0, p1, p2, p3, p4, p5, p6, p7⟩, _⟩ := pdb_cells QY
        simp only at p0 p1 p2 p3 p4 p5 p6 p7
        clear BY QY HSW HCW
        generalize wr.alloc (pdb ⟨(sn : Int), f, c, g, pb, mk, .slice (some ⟨b, off + j, none⟩) cn cn, (j : Int)⟩) = Y at *
        have hzs : Z.heap.size ≤ Y.heap.size := HCY.out.size
        obtain ⟨t0, _⟩ := stb_cells ((HCY.out.block _ hZ3 (by simp; omega)).trans HQZ.out)
        obtain ⟨⟨m0, m1, m2, m3, m4, m5, m6, m7, m8, m9, m10⟩, _⟩ := hob_cells ((HCY.out.block _ (by omega) (by simp; omega)).trans ((HVZ.out.block _ (by omega)).trans ((HUV.out.block _ hU1).trans HQU.out)))
        by_cases h1 : f = 1
        case neg =>
          have h1' : (f == 1) = false := by simpa using h1
          have HE : Hid (nilP H L (sxW H ps L (i + 1)) = nilP H L (sxW H ps L i)) := nilP_ext (fun q _ => by rw [HNX.out, wk_no (by rw [HFJ.out]; exact h1), Bool.and_false, Bool.or_false])
          clear h1
          go_wp2_with fail
          exact ⟨⟨i + 1, by omega, by go_num, by rw [HE.out]; exact HSY.out, HCY.out⟩, by simp [intOf]; omega⟩
        subst h1
        have HS1 := hasM_any (C := w3.heap.size) (o := 0) t0 (own_ints HSY.out.list) HLM.out.1 (by omega) (j : Int)
        by_cases hin : (j : Int) ∈ L
        case neg =>
          have HE : Hid (nilP H L (sxW H ps L (i + 1)) = nilP H L (sxW H ps L i)) := nilP_ext (fun q _ => by rw [HNX.out, decide_eq_false hin, Bool.false_and, Bool.or_false])
          rw [decide_eq_false hin] at HS1
          clear hin
          go_wp2_with (go_at_call 32; refine HS1.mono ?_; clear HS1; rintro e w4 ⟨rfl, hw4⟩; rw [hw4]; clear hw4 w4)
          exact ⟨⟨i + 1, by omega, by go_num, by rw [HE.out]; exact HSY.out, HCY.out⟩, by simp [intOf]; omega⟩
        obtain ⟨w5, w6, w7⟩ := HWK.out rfl
        have HE : Hid (nilP H L (sxW H ps L (i + 1)) = nilP H L (addK (sxW H ps L i) j sn)) := nilP_ext (fun q _ => by rw [HNX.out, decide_eq_true hin, Bool.true_and, ← w5, addK_wk HFJ.out])
        have LG := letGo_any (c := c) (g := g) (f := 1) (pb := pb) (mk := mk) (sa := some ⟨b, off + j, none⟩) (sq := cn) (sc := cn) (a2 := a2) (a3 := a3) (a4 := a4) (c2 := c2) (c3 := c3) (c4 := c4) HHU.out.1 HRU.out HFP.out HII.out.2.1 HGU.out (2 * H.half) HLM.out.1 hll hrows HDS.out HUV.out ⟨by omega, by omega, by omega, by omega⟩ HSY.out w6 w7
        rw [decide_eq_true hin] at HS1
        clear hin w5 w6 w7
        go_wp2_with (first
          | (go_at_call 32; refine HS1.mono ?_; clear HS1; rintro e w4 ⟨rfl, hw4⟩; rw [hw4]; clear hw4 w4)
          | (go_at_call 33; refine LG.mono ?_; clear LG; rintro e w4 ⟨rfl, s4, c4'⟩; have HS4 : Hid _ := s4; have HC4 : Hid _ := c4'; clear s4 c4'))
        exact ⟨⟨i + 1, by omega, by go_num, by rw [HE.out]; exact HS4.out, HCY.out.trans HC4.out⟩, by simp [intOf]; omega⟩
      · have hlt' : ¬ (i : Int) < (ds.length : Int) := by omega
        have e : i = ds.length := by omega
        subst e
        have eS : nilP H L (sxW H ps L ds.length) = nilP H L (covW H L) := nilP_ext (fun q _ => by rw [HLN.out]; exact sxW_end HMO.out q)
        rw [eS] at HSW
        clear hS hC eS
        obtain ⟨hp', hup, hN, hnb⟩ := sim_places HFP.out.rt.some' HMO.out (H' := nilH H L) (nil_dif (fun q h => covW_cov h)) rfl rfl rfl rfl rfl rfl rfl
        have e1 : (nilH H L).row.length = H.row.length := nilP_len _ _ _
        have SE := seeAnew_any (w := wr) (P := w2.heap.size) (H := nilH H L) (a1 := some ⟨g1, 0, none⟩) (c1 := H.row.length) (a2 := some ⟨g2, 0, none⟩) (c2 := H.roots.length) (a3 := some ⟨g3, 0, none⟩) (c3 := H.mourned.length) (a4 := some ⟨g4, 0, none⟩) (c4 := H.seen.length) (by rw [e1]; exact HSW.out.nine) (by
          rw [e1]
          have hh := HSW.out.hp
          rw [HSW.out.lr] at hh
          exact hh) hnb (roomB_of hnb hp') (all_nilP HII.out.2.1 _ _)
        rw [e1] at SE
        obtain ⟨R, hR⟩ : ∃ R, seenL (nilH H L) = R := ⟨_, rfl⟩
        rw [hR] at SE
        have HRR : Hid (R = (nilF H L).seen) := hR.symm
        have HN1 : Hid _ := nine_below HT1.out (HXU.out.trans (HUW.out.mono HXU.out.size))
        have HB4 : Hid _ := HBU.out.trans (HUW.out.mono HBU.out.size)
        have hUw := HUW.out.size
        have hXU := HXU.out.size
        have hwX := HBX.out.size
        clear hp' hup hN hnb e1 hR
        go_upto_region 13 with (go_at_call 34; refine SE.mono ?_; clear SE; rintro e w5 ⟨u5, rfl, O5, N5, C5⟩; have HO5 : Hid _ := O5; have HN5 : Hid _ := N5; have HC5 : Hid _ := C5; obtain ⟨ua, un, uc, rfl⟩ := ints_slice (own_ints O5); clear O5 N5 C5)
        obtain ⟨⟨z0, z1, z2, z3, z4⟩, ⟨z5, z6, z7, z8⟩, _⟩ := nine_cells HN5.out
        have HN6 : Hid _ := nine_ch HN1.out HC5.out (by simp; omega)
        obtain ⟨⟨y0, y1, y2, y3, y4⟩, ⟨y5, y6, y7, y8⟩, yf⟩ := nine_cells HN6.out
        have f0 := yf 0
        have f1 := yf 1
        have f2 := yf 2
        have f3 := yf 3
        have f4 := yf 4
        have f5 := yf 5
        have f6 := yf 6
        have f7 := yf 7
        have f8 := yf 8
        clear yf
        have HB5 : Hid _ := HB4.out.trans (below_ch HC5.out HB4.out.size (fun k hk => by
          have e : k = w2.heap.size := by simpa using hk
          omega))
        go_wp2_with fail
        refine bodyPost_ret (res_heap rfl rfl (nine_sets HN6.out _ _ _ _ _ _ _ _ _)) rfl ⟨_, _, _, _, rfl, ?_, nine_belows HB5.out (Nat.le_succ _) _ _ _ _ _ _ _ _ _⟩
        have hd := HDS.out
        have d1 := hd.pr
        have d2 := hd.po
        have d3 := hd.pm
        have d4 := hd.ro
        have d5 := hd.rm
        have d6 := hd.om
        have on : ∀ {v : Value} {xs : List Int}, rows.Own w5 U.heap.size v xs → ∀ {W : World}, Ch [w.heap.size + 1] w5 W → rows.Own W w.heap.size v xs := fun {v xs} ho {W} hc => own_base (row_ch ho hc (fun j hj => by have := (blk_lt ho j hj).1; simp; omega)) (by omega)
        have k1 : rows.Own w5 U.heap.size (.slice (some ⟨g1, 0, none⟩) H.row.length H.row.length) (nilF H L).row := by
          show World.ownsRow _ _ _ _ _ _ _
          rw [show (nilF H L).row.length = H.row.length from nilP_len _ _ _]
          exact row_ch HSW.out.row HC5.out (fun j hj => by rw [blk_of] at hj; simp at hj ⊢; omega)
        have k2 : rows.Own w5 U.heap.size (.slice (some ⟨g2, 0, none⟩) H.roots.length H.roots.length) (nilF H L).roots := row_ch HSW.out.roots HC5.out (fun j hj => by rw [blk_of] at hj; simp at hj ⊢; omega)
        have k3 : rows.Own w5 U.heap.size (.slice (some ⟨g3, 0, none⟩) H.mourned.length H.mourned.length) (nilF H L).mourned := row_ch HSW.out.mour HC5.out (fun j hj => by rw [blk_of] at hj; simp at hj ⊢; omega)
        have k4 : rows.Own w5 U.heap.size _ _ := own_base HO5.out hUw
        rw [HRR.out] at k4
        refine ⟨⟨on k1 (nine_other _ _ _ _ _ _ _ _ _), on k2 (nine_other _ _ _ _ _ _ _ _ _), on k3 (nine_other _ _ _ _ _ _ _ _ _), on k4 (nine_other _ _ _ _ _ _ _ _ _)⟩, ?_⟩
        have hblk5 := blk_lt HO5.out
        have hsv := HSW.out.ch.size
        cases ua with
        | none =>
          show ([g1] ++ [g2] ++ [g3] ++ []).Nodup
          simp
          omega
        | some ad =>
          have hb5 := (hblk5 ad.block (by simp [blk, Value.ownBlock])).1
          show ([g1] ++ [g2] ++ [g3] ++ [ad.block]).Nodup
          simp
          omega
end Go.Proofs.YtacilbilnbmcbaaGreatDoor.hp
