/-
  Chapter 12 as the program has it: Stored.
  Made from the template StoI2 (mkstoi2.py).
-/
import Derived.Test.YthgjnnhmcihinaaGreatStoI
namespace Go.Proofs.YthgjnnhmcihinaaGreat.hp
open Go.RowKit rows heads words walks region
set_option maxRecDepth 100000
set_option linter.unusedVariables false
set_option linter.unusedSimpArgs false

theorem young_yng (H : Hp) : youngB H = yngW (2 * H.half) := rfl
/-- What the program sees is what must be seen. -/
theorem seenW_sto {H : Hp} {ps : List Int} (R : Rt H ps) (hs : H.seen = seenL H) {p k : Int} {j m : Nat} (S : Sto H ps p k j m) (x : Int) : seenW H p ((sgL (2 * H.half) ((slotsOf H (j : Int)).set m x)).any id) = seenL (stoH H p k x) := by
  rw [S.seen R x, sgL_any, ← young_yng]
  unfold seenW stoSee
  rw [hs, S.ep, S.ek, Int.toNat_natCast]
set_option maxHeartbeats 32000000 in
theorem implStored {H : Hp} (hI : HpI H) (p k x : Int) (hxb : I64 x) (w : World) (vr vo vm vs : Value) (h : HpAt w vr vo vm vs H) (hs : hpSize H ≤ 1048576) :
    Calls Tryz.prog 25 #[hpv H vr vo vm vs, .int .i64 p, .int .i64 k, .int .i64 x] w fun e w' => ∃ (o' r' m' s' : Value), e = .returned (.tuple #[hpv (stoOk H p k x) o' r' m' s', .bool (stoOkB H p k x)]) ∧ OwnH w' w.heap.size o' r' m' s' (stoOk H p k x) ∧ Below w.heap.size w w' := by
  obtain ⟨a1, c1, a2, c2, a3, c3, a4, c4, e1, e2, e3, e4⟩ := hpAt_slices h
  subst e1 e2 e3 e4
  obtain ⟨R, hR⟩ : ∃ R, stoOk H p k x = R := ⟨_, rfl⟩
  obtain ⟨Rb, hRb⟩ : ∃ Rb, stoOkB H p k x = Rb := ⟨_, rfl⟩
  rw [hR, hRb]
  have HR : Hid _ := hR
  have HRb : Hid _ := hRb
  have HX0 : Hid _ := hpX2 (w := w) (H := H) (.slice a1 H.row.length c1) (.slice a2 H.roots.length c2) (.slice a3 H.mourned.length c3) (.slice a4 H.seen.length c4)
  have HII : Hid _ := hI
  have HHW : Hid _ := h
  have HSZ : Hid _ := hs
  have HXB : Hid _ := hxb
  clear hR hRb hI h hs hxb
  go_enter Tryz.func25, Tryz.ntmps25
  go_upto_region 1 with fail
  generalize (w.alloc _).alloc _ = X at *
  obtain ⟨⟨z0, z1, z2, z3, z4⟩, ⟨z5, z6, z7, z8⟩, _⟩ := nine_cells HX0.out.n0
  have OX := opened_any (hpAt_below HHW.out HX0.out.below) HSZ.out HII.out
  unfold OpenR at OX
  cases dr : heapOk H
  · have R0 := OX.mono (fun e w' (g : _ ∧ _ ∧ _) => (⟨g.1 dr, g.2.2⟩ : e = .returned (.tuple #[hov0, .bool false]) ∧ Below _ _ w'))
    obtain rfl : hp0 = R := by rw [← HR.out]; unfold stoOk; rw [if_neg (by rw [dr]; decide)]
    obtain rfl : false = Rb := by rw [← HRb.out]; unfold stoOkB; rw [dr]; rfl
    clear dr HR HRb OX
    go_upto_region 2 with (go_at_call 31; refine R0.mono ?_; clear R0 z0 z1 z2 z3 z4 z5 z6 z7 z8; rintro e w1 ⟨rfl, b1⟩; have HB1 : Hid _ := b1; clear b1)
    have HC : Hid _ := HX0.out.grow (HB1.out.alloc HB1.out.size (hob hz s0 s0 s0 s0 0 s0))
    generalize w1.alloc (hob hz s0 s0 s0 s0 0 s0) = Y at *
    obtain ⟨⟨y0, y1, y2, y3, y4⟩, ⟨y5, y6, y7, y8⟩, yf⟩ := nine_cells HC.out.n1
    have f0 := yf 0
    have f1 := yf 1
    have f2 := yf 2
    have f3 := yf 3
    have f4 := yf 4
    have f5 := yf 5
    have f6 := yf 6
    have f7 := yf 7
    have f8 := yf 8
    clear yf
    have HN1 : Hid _ := HC.out.n1
    have HBE : Hid _ := HC.out.below
    clear HC HX0
    go_wp2_with fail
    exact bodyPost_ret (res_heap2 rfl rfl rfl (nine_sets HN1.out _ _ _ _ _ _ _ _ _)) rfl ⟨_, _, _, _, rfl, ownZ _ _, nine_belows HBE.out (by omega) _ _ _ _ _ _ _ _ _⟩
  have R0 := OX.mono (fun e w' (g : _ ∧ _ ∧ _) => (⟨g.2.1 dr, g.2.2⟩ : (∃ a5 c5, e = .returned (.tuple #[hov H (.slice a1 H.row.length c1) (.slice a2 H.roots.length c2) (.slice a3 H.mourned.length c3) (.slice a4 H.seen.length c4) (2 * H.half) (.slice a5 (objsP a1 H).length c5), .bool true]) ∧ OwnP w' _ (.slice a5 (objsP a1 H).length c5) (objsP a1 H)) ∧ Below _ _ w'))
  obtain ⟨ps, FP⟩ := folP_of (a := a1) dr
  have hsn := (ok_right dr).2
  have hrt := (ok_right dr).1
  rw [← openB_is a1 H] at hrt
  obtain ⟨hn, hro, _⟩ := openB_parts hrt
  have HR2 : Hid ((if stoB H ps p k x = true then stoF H p k x else H) = R) := by show _ = _; rw [← HR.out]; unfold stoOk; rw [if_pos dr, FP.rt.some', Option.getD_some]
  have HRb2 : Hid (stoB H ps p k x = Rb) := by show _ = _; rw [← HRb.out]; unfold stoOkB; rw [dr, FP.rt.some', Option.getD_some]; rfl
  have HRA : Hid (∀ V v, HpAt V (.slice a1 H.row.length c1) (.slice a2 H.roots.length c2) (.slice a3 H.mourned.length c3) (.slice a4 H.seen.length c4) H → PdsAt V v (objsP a1 H) → RoomsAt V v (objsP a1 H) (slP H.row)) := fun V v h1 h2 => roomsAt_of h1.1 hn hro HII.out.2.1 h2
  have HFP : Hid _ := FP
  have HSN : Hid _ := hsn
  have HRO : Hid _ := hro
  have HDR : Hid _ := dr
  clear OX hrt hn hro FP hsn dr HR HRb
  go_upto_region 2 with (go_at_call 31; refine R0.mono ?_; clear R0 z0 z1 z2 z3 z4 z5 z6 z7 z8; rintro e w1 ⟨⟨a5, c5, rfl, O1⟩, b1⟩; have HB1 : Hid _ := b1; have HO1 : Hid _ := O1; clear b1 O1)
  have B2 : Below w1.heap.size w1 (w1.alloc (hob H (.slice a1 H.row.length c1) (.slice a2 H.roots.length c2) (.slice a3 H.mourned.length c3) (.slice a4 H.seen.length c4) (2 * H.half) (.slice a5 (objsP a1 H).length c5))) := (Below.refl _ _).alloc (Nat.le_refl _) _
  have HCY : Hid _ := HX0.out.grow (HB1.out.trans (B2.mono HB1.out.size))
  have HQ2 : Hid _ := heap_alloc_new w1 (hob H (.slice a1 H.row.length c1) (.slice a2 H.roots.length c2) (.slice a3 H.mourned.length c3) (.slice a4 H.seen.length c4) (2 * H.half) (.slice a5 (objsP a1 H).length c5))
  have HRY : Hid _ := HRA.out _ _ (hpAt_below HHW.out HCY.out.below) (pdsAt_below (ownP_at HO1.out) B2)
  have HYS : Hid (w.heap.size + 2 ≤ (w1.alloc (hob H (.slice a1 H.row.length c1) (.slice a2 H.roots.length c2) (.slice a3 H.mourned.length c3) (.slice a4 H.seen.length c4) (2 * H.half) (.slice a5 (objsP a1 H).length c5))).heap.size) := HCY.out.size
  clear B2 HO1 HB1 HX0
  generalize w1.alloc (hob H (.slice a1 H.row.length c1) (.slice a2 H.roots.length c2) (.slice a3 H.mourned.length c3) (.slice a4 H.seen.length c4) (2 * H.half) (.slice a5 (objsP a1 H).length c5)) = Y at *
  have HN2Y : Hid (w1.heap.size < Y.heap.size) := lt_of_block HQ2.out
  generalize w1.heap.size = n2 at *
  obtain ⟨⟨z0, z1, z2, z3, z4⟩, ⟨z5, z6, z7, z8⟩, _⟩ := nine_cells HCY.out.n0
  have CP := copiedHeap_any (hpAt_below HHW.out HCY.out.below) HSZ.out
  go_upto_region 5 with (go_at_call 51; refine CP.mono ?_; clear CP z0 z1 z2 z3 z4 z5 z6 z7 z8; rintro e w3 ⟨g1, g2, g3, g4, rfl, O3, b3⟩; have HO3 : Hid _ := O3; have HB3 : Hid _ := b3; clear O3 b3)
  have BZ : Below w3.heap.size w3 (w3.alloc (hpb H (.slice (some ⟨g1, 0, none⟩) H.row.length H.row.length) (.slice (some ⟨g2, 0, none⟩) H.roots.length H.roots.length) (.slice (some ⟨g3, 0, none⟩) H.mourned.length H.mourned.length) (.slice (some ⟨g4, 0, none⟩) H.seen.length H.seen.length))) := (Below.refl _ _).alloc (Nat.le_refl _) _
  have HBZ : Hid _ := HB3.out.trans (BZ.mono HB3.out.size)
  have HN3 : Hid _ := nine_new w3 H (.slice (some ⟨g1, 0, none⟩) H.row.length H.row.length) (.slice (some ⟨g2, 0, none⟩) H.roots.length H.roots.length) (.slice (some ⟨g3, 0, none⟩) H.mourned.length H.mourned.length) (.slice (some ⟨g4, 0, none⟩) H.seen.length H.seen.length)
  have HOZ : Hid _ := ownH_below HO3.out BZ
  have HG : Hid _ := ownH_lt HO3.out
  have HPN : Hid (w3.heap.size ∉ hblk (.slice (some ⟨g1, 0, none⟩) H.row.length H.row.length) (.slice (some ⟨g2, 0, none⟩) H.roots.length H.roots.length) (.slice (some ⟨g3, 0, none⟩) H.mourned.length H.mourned.length) (.slice (some ⟨g4, 0, none⟩) H.seen.length H.seen.length)) := fun hm => by have := (HG.out _ hm).2; omega
  have HY3 : Hid (Y.heap.size ≤ w3.heap.size) := HB3.out.size
  clear BZ HO3 HB3
  generalize w3.alloc (hpb H (.slice (some ⟨g1, 0, none⟩) H.row.length H.row.length) (.slice (some ⟨g2, 0, none⟩) H.roots.length H.roots.length) (.slice (some ⟨g3, 0, none⟩) H.mourned.length H.mourned.length) (.slice (some ⟨g4, 0, none⟩) H.seen.length H.seen.length)) = Z at *
  generalize w3.heap.size = n3 at *
  have HZ : Hid (∀ V, Below Z.heap.size Z V → CqS w V H (.slice a1 H.row.length c1) (.slice a2 H.roots.length c2) (.slice a3 H.mourned.length c3) (.slice a4 H.seen.length c4) ∧ Nine V (w.heap.size + 1) 31 (.int .i64 0) (.int .i64 0) (.slice none 0 0) (.int .i64 0) (.int .i64 0) (.slice none 0 0) (.slice none 0 0) (.slice none 0 0) (.int .i64 0) ∧ Nine V n3 31 (.int .i64 H.half) (.int .i64 H.old) (.slice (some ⟨g1, 0, none⟩) H.row.length H.row.length) (.int .i64 H.side) (.int .i64 H.top) (.slice (some ⟨g2, 0, none⟩) H.roots.length H.roots.length) (.slice (some ⟨g3, 0, none⟩) H.mourned.length H.mourned.length) (.slice (some ⟨g4, 0, none⟩) H.seen.length H.seen.length) (.int .i64 H.seed) ∧ OwnH V Y.heap.size (.slice (some ⟨g1, 0, none⟩) H.row.length H.row.length) (.slice (some ⟨g2, 0, none⟩) H.roots.length H.roots.length) (.slice (some ⟨g3, 0, none⟩) H.mourned.length H.mourned.length) (.slice (some ⟨g4, 0, none⟩) H.seen.length H.seen.length) H ∧ Below w.heap.size w V ∧ V.heap[n2]? = some (hob H (.slice a1 H.row.length c1) (.slice a2 H.roots.length c2) (.slice a3 H.mourned.length c3) (.slice a4 H.seen.length c4) (2 * H.half) (.slice a5 (objsP a1 H).length c5)) ∧ RoomsAt V (.slice a5 (objsP a1 H).length c5) (objsP a1 H) (slP H.row)) := fun V hV => by
    have hYV := HBZ.out.trans (hV.mono HBZ.out.size)
    have hc := HCY.out.grow hYV
    exact ⟨hc, hc.n1, nine_below HN3.out hV, ownH_below HOZ.out hV, hc.below, (hYV.block _ (lt_of_block HQ2.out)).trans HQ2.out, HRY.out.below hYV⟩
  have HSO : Hid (∀ V, RoomsAt V (.slice a5 (objsP a1 H).length c5) (objsP a1 H) (slP H.row) → Calls Tryz.prog 46 #[rmv (2 * H.half) (.slice a5 (objsP a1 H).length c5), .int .i64 p, .int .i64 k] V fun e w' => (hasP (objsP a1 H) p = false → e = .returned (.tuple #[pdv pdD, .bool false])) ∧ (hasP (objsP a1 H) p = true → ∃ i, i < (objsP a1 H).length ∧ ((objsP a1 H).getD i pdD).pl = p ∧ e = .returned (.tuple #[pdv ((objsP a1 H).getD i pdD), .bool (!(((objsP a1 H).getD i pdD).f == 7) && (decide (0 ≤ k) && decide (k < ((objsP a1 H).getD i pdD).s)))])) ∧ Below V.heap.size V w') := fun V r => slotOwner_any r.pds r.slices r.rise (Nat.le_trans r.len (by decide)) p k
  obtain ⟨_, _, _, _, _, qZ, rZ⟩ := HZ.out Z (Below.refl _ _)
  obtain ⟨⟨m0, m1, m2, m3, m4, m5, m6, m7, m8, m9, m10⟩, _⟩ := hob_cells qZ
  have SO := HSO.out Z rZ
  clear qZ rZ HSO HCY HRY HBZ HN3 HOZ HRA HQ2
  cases hP : hasP (objsP a1 H) p
  · have F0 := SO.mono (fun e w' (hh : _ ∧ _ ∧ _) => (⟨hh.1 hP, hh.2.2⟩ : e = .returned (.tuple #[pdv pdD, .bool false]) ∧ Below Z.heap.size Z w'))
    have hsl := slotB_no (k := k) HDR.out HFP.out.rt hP
    obtain rfl : H = R := by rw [← HR2.out]; unfold stoB; rw [hsl]; rfl
    obtain rfl : false = Rb := by rw [← HRb2.out]; unfold stoB; rw [hsl]; rfl
    clear SO hP hsl HR2 HRb2
    go_upto_region 6 with (go_at_call 46; refine F0.mono ?_; clear F0 m0 m1 m2 m3 m4 m5 m6 m7 m8 m9 m10; rintro e w4 ⟨rfl, b4⟩; have HB4 : Hid _ := b4; clear b4)
    have HBU : Hid _ := HB4.out.alloc HB4.out.size (pdb pdD)
    generalize w4.alloc (pdb pdD) = U at *
    obtain ⟨N0u, N1u, N3u, Ou, Bwu, _⟩ := HZ.out U HBU.out
    obtain ⟨⟨z0, z1, z2, z3, z4⟩, ⟨z5, z6, z7, z8⟩, _⟩ := nine_cells N3u
    obtain ⟨⟨y0, y1, y2, y3, y4⟩, ⟨y5, y6, y7, y8⟩, yf⟩ := nine_cells N1u
    have f0 := yf 0
    have f1 := yf 1
    have f2 := yf 2
    have f3 := yf 3
    have f4 := yf 4
    have f5 := yf 5
    have f6 := yf 6
    have f7 := yf 7
    have f8 := yf 8
    clear yf
    have HN1 : Hid _ := N1u
    have HOU : Hid _ := Ou
    have HBW : Hid _ := Bwu
    clear N0u N1u N3u Ou Bwu
    go_wp2_with fail
    refine bodyPost_ret (res_heap2 rfl rfl rfl (nine_sets HN1.out _ _ _ _ _ _ _ _ _)) rfl ⟨_, _, _, _, rfl, ?_, nine_belows HBW.out (by omega) _ _ _ _ _ _ _ _ _⟩
    have hy2 := HYS.out
    have H5 := HOU.out
    have on : ∀ {v : Value} {xs : List Int}, rows.Own U Y.heap.size v xs → ∀ {W : World}, Ch [w.heap.size + 1] U W → rows.Own W w.heap.size v xs := fun {v xs} ho {W} hc => own_base (row_ch ho hc (fun j hj => by have := (blk_lt ho j hj).1; simp; omega)) (by omega)
    exact ⟨⟨on H5.1.1 (nine_other _ _ _ _ _ _ _ _ _), on H5.1.2.1 (nine_other _ _ _ _ _ _ _ _ _), on H5.1.2.2.1 (nine_other _ _ _ _ _ _ _ _ _), on H5.1.2.2.2 (nine_other _ _ _ _ _ _ _ _ _)⟩, H5.2⟩

  have F0 := SO.mono (fun e w' (hh : _ ∧ _ ∧ _) => (⟨hh.2.1 hP, hh.2.2⟩ : (∃ i, i < (objsP a1 H).length ∧ ((objsP a1 H).getD i pdD).pl = p ∧ e = .returned (.tuple #[pdv ((objsP a1 H).getD i pdD), .bool (!(((objsP a1 H).getD i pdD).f == 7) && (decide (0 ≤ k) && decide (k < ((objsP a1 H).getD i pdD).s)))])) ∧ Below Z.heap.size Z w'))
  have hyes := slotB_yes (k := k) HDR.out HFP.out.rt hP
  have hlen := HFP.out.rt.len
  have hrl : 0 < H.row.length := by
    have N := (places_facts HFP.out.rt.some').1
    have h1 := N.len
    have h2 := N.half1.1
    omega
  obtain ⟨b, off, ea, hb, _⟩ := ints_cell (k := 0) HHW.out.1 hrl
  subst ea
  obtain ⟨sB, hsB⟩ : ∃ sB, slotB H ps p k = sB := ⟨_, rfl⟩
  have HIN : Hid (∀ i, i < (objsP (some ⟨b, off, none⟩) H).length → ((objsP (some ⟨b, off, none⟩) H).getD i pdD).pl = p → ∃ (j : Nat) (xs xf xc xh : Int) (xp xm : Bool) (cn : Nat), (objsP (some ⟨b, off, none⟩) H).getD i pdD = ⟨xs, xf, xc, xh, xp, xm, .slice (some ⟨b, off + j, none⟩) cn cn, p⟩ ∧ (!(xf == 7) && (decide (0 ≤ k) && decide (k < xs))) = sB ∧ Hid (p = j ∧ chunk H.row j ≠ 0 ∧ uF (H.row.getD j 0) ≠ 6 ∧ xs = uS (H.row.getD j 0) ∧ xf = uF (H.row.getD j 0) ∧ xc = uC (H.row.getD j 0) ∧ xh = uH (H.row.getD j 0) ∧ xp = uP (H.row.getD j 0) ∧ xm = uM (H.row.getD j 0) ∧ cn = (chunk H.row j).toNat)) := fun i hi hpl => by
    obtain ⟨j, e, hc, h6⟩ := objs_in HRO.out _ (mem_getDP hi)
    have q := chunk_fits hc h6
    rw [e, pdOf_pl] at hpl
    subst hpl
    refine ⟨j, _, _, _, _, _, _, _, ?_, ?_, ⟨rfl, hc, h6, rfl, rfl, rfl, rfl, rfl, rfl, rfl⟩⟩
    · rw [e]
      unfold pdOf
      rw [piece_at b off j _ (by omega)]
    · rw [Int.toNat_natCast] at hyes
      exact hyes.symm.trans hsB
  have HSB : Hid _ := hsB
  clear SO hP hyes hsB
  go_upto_region 6 with (go_at_call 46; refine F0.mono ?_; clear F0 m0 m1 m2 m3 m4 m5 m6 m7 m8 m9 m10; rintro e w4 ⟨⟨i, hi, hpl, rfl⟩, b4⟩; obtain ⟨j, xs, xf, xc, xh, xp, xm, cn, hd, hbe, HJ⟩ := HIN.out i hi hpl; rw [hd]; simp only [hbe]; have HB4 : Hid _ := b4; clear b4 HIN hd hpl hi hbe)
  have HBU : Hid _ := HB4.out.alloc HB4.out.size (pdb ⟨xs, xf, xc, xh, xp, xm, .slice (some ⟨b, off + j, none⟩) cn cn, p⟩)
  have HQ4 : Hid _ := heap_alloc_new w4 (pdb ⟨xs, xf, xc, xh, xp, xm, .slice (some ⟨b, off + j, none⟩) cn cn, p⟩)
  have HZ4 : Hid (Z.heap.size ≤ w4.heap.size) := HB4.out.size
  generalize w4.alloc (pdb ⟨xs, xf, xc, xh, xp, xm, .slice (some ⟨b, off + j, none⟩) cn cn, p⟩) = U at *
  generalize w4.heap.size = n4 at *
  clear HB4
  cases sB
  · obtain rfl : H = R := by rw [← HR2.out]; unfold stoB; rw [HSB.out]; rfl
    obtain rfl : false = Rb := by rw [← HRb2.out]; unfold stoB; rw [HSB.out]; rfl
    clear HR2 HRb2 HSB HJ HQ4
    obtain ⟨N0u, N1u, N3u, Ou, Bwu, _⟩ := HZ.out U HBU.out
    obtain ⟨⟨z0, z1, z2, z3, z4⟩, ⟨z5, z6, z7, z8⟩, _⟩ := nine_cells N3u
    obtain ⟨⟨y0, y1, y2, y3, y4⟩, ⟨y5, y6, y7, y8⟩, yf⟩ := nine_cells N1u
    have f0 := yf 0
    have f1 := yf 1
    have f2 := yf 2
    have f3 := yf 3
    have f4 := yf 4
    have f5 := yf 5
    have f6 := yf 6
    have f7 := yf 7
    have f8 := yf 8
    clear yf
    have HN1 : Hid _ := N1u
    have HOU : Hid _ := Ou
    have HBW : Hid _ := Bwu
    clear N0u N1u N3u Ou Bwu
    go_wp2_with fail
    refine bodyPost_ret (res_heap2 rfl rfl rfl (nine_sets HN1.out _ _ _ _ _ _ _ _ _)) rfl ⟨_, _, _, _, rfl, ?_, nine_belows HBW.out (by omega) _ _ _ _ _ _ _ _ _⟩
    have hy2 := HYS.out
    have H5 := HOU.out
    have on : ∀ {v : Value} {xs : List Int}, rows.Own U Y.heap.size v xs → ∀ {W : World}, Ch [w.heap.size + 1] U W → rows.Own W w.heap.size v xs := fun {v xs} ho {W} hc => own_base (row_ch ho hc (fun j hj => by have := (blk_lt ho j hj).1; simp; omega)) (by omega)
    exact ⟨⟨on H5.1.1 (nine_other _ _ _ _ _ _ _ _ _), on H5.1.2.1 (nine_other _ _ _ _ _ _ _ _ _), on H5.1.2.2.1 (nine_other _ _ _ _ _ _ _ _ _), on H5.1.2.2.2 (nine_other _ _ _ _ _ _ _ _ _)⟩, H5.2⟩

  obtain ⟨_, _, _, _, _, qU, rU⟩ := HZ.out U HBU.out
  obtain ⟨⟨m0, m1, m2, m3, m4, m5, m6, m7, m8, m9, m10⟩, _⟩ := hob_cells qU
  have HO : Calls Tryz.prog 52 #[rmv (2 * H.half) (.slice a5 (objsP (some ⟨b, off, none⟩) H).length c5), .int .i64 x] U fun e w' => e = .returned (.bool (wordIn H ps x)) ∧ Below U.heap.size U w' := by
    have := holds_any (up := 2 * H.half) rU.pds rU.slices rU.rise (Nat.le_trans rU.len (by decide)) x HXB.out.1 HXB.out.2
    rwa [HFP.out.word] at this
  clear qU rU
  cases dw : wordIn H ps x
  · rw [dw] at HO
    obtain rfl : H = R := by rw [← HR2.out]; unfold stoB; rw [HSB.out, dw]; rfl
    obtain rfl : false = Rb := by rw [← HRb2.out]; unfold stoB; rw [HSB.out, dw]; rfl
    clear HR2 HRb2 HSB HJ dw
    go_upto_region 7 with (go_at_call 52; refine HO.mono ?_; clear HO m0 m1 m2 m3 m4 m5 m6 m7 m8 m9 m10; rintro e U2 ⟨rfl, b5⟩; have HBV : Hid _ := HBU.out.trans (b5.mono HBU.out.size); clear b5)
    obtain ⟨N0u, N1u, N3u, Ou, Bwu, _⟩ := HZ.out U2 HBV.out
    obtain ⟨⟨z0, z1, z2, z3, z4⟩, ⟨z5, z6, z7, z8⟩, _⟩ := nine_cells N3u
    obtain ⟨⟨y0, y1, y2, y3, y4⟩, ⟨y5, y6, y7, y8⟩, yf⟩ := nine_cells N1u
    have f0 := yf 0
    have f1 := yf 1
    have f2 := yf 2
    have f3 := yf 3
    have f4 := yf 4
    have f5 := yf 5
    have f6 := yf 6
    have f7 := yf 7
    have f8 := yf 8
    clear yf
    have HN1 : Hid _ := N1u
    have HOU : Hid _ := Ou
    have HBW : Hid _ := Bwu
    clear N0u N1u N3u Ou Bwu
    go_wp2_with fail
    refine bodyPost_ret (res_heap2 rfl rfl rfl (nine_sets HN1.out _ _ _ _ _ _ _ _ _)) rfl ⟨_, _, _, _, rfl, ?_, nine_belows HBW.out (by omega) _ _ _ _ _ _ _ _ _⟩
    have hy2 := HYS.out
    have H5 := HOU.out
    have on : ∀ {v : Value} {xs : List Int}, rows.Own U2 Y.heap.size v xs → ∀ {W : World}, Ch [w.heap.size + 1] U2 W → rows.Own W w.heap.size v xs := fun {v xs} ho {W} hc => own_base (row_ch ho hc (fun j hj => by have := (blk_lt ho j hj).1; simp; omega)) (by omega)
    exact ⟨⟨on H5.1.1 (nine_other _ _ _ _ _ _ _ _ _), on H5.1.2.1 (nine_other _ _ _ _ _ _ _ _ _), on H5.1.2.2.1 (nine_other _ _ _ _ _ _ _ _ _), on H5.1.2.2.2 (nine_other _ _ _ _ _ _ _ _ _)⟩, H5.2⟩

  rw [dw] at HO
  obtain rfl : stoF H p k x = R := by rw [← HR2.out]; unfold stoB; rw [HSB.out, dw]; rfl
  obtain rfl : true = Rb := by rw [← HRb2.out]; unfold stoB; rw [HSB.out, dw]; rfl
  obtain ⟨j', m, S⟩ := sto_of HFP.out.rt HSB.out
  obtain ⟨hpj, hc, h6, rfl, rfl, rfl, rfl, rfl, rfl, rfl⟩ := HJ.out
  obtain rfl : j = j' := by have := S.ep; omega
  have HSE : Hid _ := seenW_sto HFP.out.rt HSN.out S x
  have HSR : Hid (stoH H p k x = { H with row := H.row.set (j + 1 + m) x }) := by show _ = _; unfold stoH; rw [← S.row x]; rfl
  have hek := S.ek
  have hlt := S.lt
  have hsl := S.slot
  have h7 := S.n7
  subst hek
  have hsn20 := uS_bounds (H.row.getD j 0)
  have hcn : cnS (H.row.getD j 0) = uS (H.row.getD j 0) := by unfold cnS; rw [if_neg h7, if_neg h6]
  have hsll := slots_lenI hc
  rw [hcn] at hsll
  have hq := chunk_fits hc h6
  have HSLI : Hid (∀ V, HpAt V (.slice (some ⟨b, off, none⟩) H.row.length c1) (.slice a2 H.roots.length c2) (.slice a3 H.mourned.length c3) (.slice a4 H.seen.length c4) H → IntsAt V (.slice (some ⟨b, off + j + 1, none⟩) (uS (H.row.getD j 0)).toNat (uS (H.row.getD j 0)).toNat) (slotsOf H (j : Int))) := fun V hV => by
    have := piece_is hV.1 (by omega) (j + 1) (uS (H.row.getD j 0)).toNat (by omega)
    rw [piece_at _ _ _ _ (by omega)] at this
    have e : slotsOf H (j : Int) = (H.row.drop (j + 1)).take (uS (H.row.getD j 0)).toNat := by unfold slotsOf; rw [Int.toNat_natCast, hcn]
    rw [e]
    exact this
  have HSLC : Hid (∀ V, Calls Tryz.prog 48 #[cv (uS (H.row.getD j 0)) (uF (H.row.getD j 0)) (uC (H.row.getD j 0)) (uH (H.row.getD j 0)) (uP (H.row.getD j 0)) (uM (H.row.getD j 0)) (.slice (some ⟨b, off + j, none⟩) (chunk H.row j).toNat (chunk H.row j).toNat)] V fun e w' => e = .returned (.slice (some ⟨b, off + j + 1, none⟩) (uS (H.row.getD j 0)).toNat (uS (H.row.getD j 0)).toNat) ∧ Below V.heap.size V w') := fun V => by
    have := slots_at (w := V) (b := b) (off := off) hlen hc h6
    rw [cnP_of, if_neg h7, piece_at _ _ _ _ (by omega)] at this
    exact this
  have HAI : Hid (AllI (slotsOf H (j : Int))) := fun y hy => by
    unfold slotsOf at hy
    exact HII.out.2.1 y (List.mem_of_mem_drop (List.mem_of_mem_take hy))
  have hl20 : (slotsOf H (j : Int)).length ≤ 20 := by omega
  have HSG : Hid (∀ V, HpAt V (.slice (some ⟨b, off, none⟩) H.row.length c1) (.slice a2 H.roots.length c2) (.slice a3 H.mourned.length c3) (.slice a4 H.seen.length c4) H → Calls Tryz.prog 53 #[rmv (2 * H.half) (.slice a5 (objsP (some ⟨b, off, none⟩) H).length c5), pdv ⟨uS (H.row.getD j 0), uF (H.row.getD j 0), uC (H.row.getD j 0), uH (H.row.getD j 0), uP (H.row.getD j 0), uM (H.row.getD j 0), .slice (some ⟨b, off + j, none⟩) (chunk H.row j).toNat (chunk H.row j).toNat, p⟩] V fun e w' => e = .returned (.agg (sgA (sgL (2 * H.half) (slotsOf H (j : Int))))) ∧ Below V.heap.size V w') := fun V hV => sightOf_any hl20 HAI.out (HSLI.out V hV) HSLC.out
  have HYG : Hid (∀ V, Calls Tryz.prog 54 #[rmv (2 * H.half) (.slice a5 (objsP (some ⟨b, off, none⟩) H).length c5), .int .i64 x] V fun e w' => e = .returned (.bool (yngW (2 * H.half) x)) ∧ Below V.heap.size V w') := fun V => isYoung_any (2 * H.half) a5 (objsP (some ⟨b, off, none⟩) H).length c5 x V HXB.out.1 HXB.out.2
  have HSET : Hid _ := sgL_set (up := 2 * H.half) hsl x
  have hL0 := sgL_len (up := 2 * H.half) hl20
  have hL1 : (sgL (2 * H.half) ((slotsOf H (j : Int)).set m x)).length = 20 := sgL_len (by rw [List.length_set]; exact hl20)
  have hm20 : m < 20 := by omega
  have HL0 : Hid _ := hL0
  have HL1 : Hid _ := hL1
  obtain ⟨fs1, hfs1⟩ : ∃ fs1, sgL (2 * H.half) ((slotsOf H (j : Int)).set m x) = fs1 := ⟨_, rfl⟩
  obtain ⟨fs0, hfs0⟩ : ∃ fs0, sgL (2 * H.half) (slotsOf H (j : Int)) = fs0 := ⟨_, rfl⟩
  obtain ⟨yb, hyb⟩ : ∃ yb, yngW (2 * H.half) x = yb := ⟨_, rfl⟩
  rw [hfs1] at HSET HL1 HSE
  rw [hfs0] at HSET HL0
  simp only [hfs0] at HSG
  simp only [hyb] at HYG
  rw [hyb] at HSET
  have HSW : Hid (∀ V, HpAt V (.slice (some ⟨b, off, none⟩) H.row.length c1) (.slice a2 H.roots.length c2) (.slice a3 H.mourned.length c3) (.slice a4 H.seen.length c4) H → Calls Tryz.prog 55 #[hov H (.slice (some ⟨b, off, none⟩) H.row.length c1) (.slice a2 H.roots.length c2) (.slice a3 H.mourned.length c3) (.slice a4 H.seen.length c4) (2 * H.half) (.slice a5 (objsP (some ⟨b, off, none⟩) H).length c5), .int .i64 p, .agg (sgA fs1)] V fun e w' => ∃ u, e = .returned u ∧ rows.Own w' V.heap.size u (seenL (stoH H p m x)) ∧ Below V.heap.size V w') := fun V hV => by
    have hrs : Rising H.seen := by rw [HSN.out]; exact (by
      obtain ⟨_, _, r, u, _, hu, _, _⟩ := places_facts HFP.out.rt.some'
      unfold seenL
      rw [hu, Option.getD_some]
      exact List.Pairwise.filter _ (walkO_rising hu))
    have hl : H.seen.length ≤ 1000 := by
      obtain ⟨_, _, r, u, _, hu, _, e⟩ := places_facts HFP.out.rt.some'
      have hpl := (places_plc HFP.out.rt.some').2
      rw [e, List.length_append] at hpl
      rw [HSN.out]
      unfold seenL
      rw [hu, Option.getD_some]
      exact Nat.le_trans (List.length_filter_le _ _) (by omega)
    have := seenWith_any (a1 := some ⟨b, off, none⟩) (n1 := H.row.length) (c1 := c1) (a2 := a2) (n2 := H.roots.length) (c2 := c2) (a3 := a3) (n3 := H.mourned.length) (c3 := c3) (a5 := a5) (n5 := (objsP (some ⟨b, off, none⟩) H).length) (c5 := c5) hV.2.2.2 hrs hl p HL1.out
    rw [HSE.out] at this
    exact this
  have hw0 : (some (⟨b, off, none⟩ : Addr)) = some ⟨b, off, none⟩ := rfl
  clear hfs1 hfs0 hyb hL0 hL1 hcn hsll hq hsn20 hsl h6 h7 hc HJ HR2 HRb2 dw HAI HSLC HSLI S hw0
  generalize (chunk H.row j).toNat = cn at *
  generalize uF (H.row.getD j 0) = xf at *
  generalize uS (H.row.getD j 0) = xs at *
  generalize uC (H.row.getD j 0) = xc at *
  generalize uH (H.row.getD j 0) = xh at *
  generalize uP (H.row.getD j 0) = xp at *
  generalize uM (H.row.getD j 0) = xm at *
  have hj1 : (0 : Int) ≤ p + 1 + (m : Int) := by omega
  have hj2 : p + 1 + (m : Int) < (H.row.length : Int) := by omega
  have hj3 : (p + 1 + (m : Int)).toNat = j + 1 + m := by omega
  have hj4 : IntKind.i64.wrap (p + 1) = p + 1 := by rw [IntKind.wrap_i64]; omega
  have hj5 : IntKind.i64.wrap (p + 1 + (m : Int)) = p + 1 + (m : Int) := by rw [IntKind.wrap_i64]; omega
  have HPJ : Hid _ := hpj
  clear hpj
  go_upto_region 8 with (go_at_call 52; refine HO.mono ?_; clear HO m0 m1 m2 m3 m4 m5 m6 m7 m8 m9 m10; rintro e V ⟨rfl, b5⟩; have HBV : Hid _ := HBU.out.trans (b5.mono HBU.out.size); have HQ5 : Hid _ := (b5.block _ (lt_of_block HQ4.out)).trans HQ4.out; clear b5)
  obtain ⟨CV, N1V, N3V, OV, BV, QV, RV⟩ := HZ.out V HBV.out
  obtain ⟨⟨z0, z1, z2, z3, z4⟩, ⟨z5, z6, z7, z8⟩, _⟩ := nine_cells N3V
  obtain ⟨x0, f0⟩ := own_at OV.1.1 hlt
  generalize H.row.getD (j + 1 + m) 0 = old at x0
  have hgY : Y.heap.size ≤ g1 := (HG.out g1 (in_hblk.1 _ (List.mem_singleton.2 rfl))).1
  have hg3 : g1 < n3 := (HG.out g1 (in_hblk.1 _ (List.mem_singleton.2 rfl))).2
  have hYS := HYS.out
  have hY3 := HY3.out
  have hn3Z : n3 < Z.heap.size := by have := lt_of_block (HZ.out Z (Below.refl _ _)).2.2.1; exact this
  have hZ4 := HZ4.out
  have hn2 : n2 < Y.heap.size ∨ True := .inr trivial
  have C1 : Ch [g1] V (V.setCell ⟨g1, j + 1 + m, none⟩ (.int .i64 x)) := one_ch _ _ _ _
  have O1 := ownH_row OV (j + 1 + m) x
  have N31 := nine_ch N3V C1 (by simp; omega)
  have N11 := nine_ch N1V C1 (by simp; omega)
  have B1 : Below w.heap.size w (V.setCell ⟨g1, j + 1 + m, none⟩ (.int .i64 x)) := BV.trans (below_ch C1 BV.size (fun k hk => by simp at hk; omega))
  have Q51 := (C1.block n4 (lt_of_block HQ5.out) (by simp; omega)).trans HQ5.out
  have hn2Y : n2 < Y.heap.size := HN2Y.out
  have Q21 := (C1.block n2 (lt_of_block QV) (by simp; omega)).trans QV
  have HO1 : Hid _ := O1
  have HN31 : Hid _ := N31
  have HN11 : Hid _ := N11
  have HB1 : Hid _ := B1
  have HQ51 : Hid _ := Q51
  have HQ21 : Hid _ := Q21
  clear CV N1V N3V OV BV QV RV C1 O1 N31 N11 B1 Q51 Q21
  go_upto_region 9 with fail
  generalize V.setCell ⟨g1, j + 1 + m, none⟩ (.int .i64 x) = V1 at *
  clear z0 z1 z2 z3 z4 z5 z6 z7 z8 x0 f0
  obtain ⟨⟨m0, m1, m2, m3, m4, m5, m6, m7, m8, m9, m10⟩, _⟩ := hob_cells HQ21.out
  obtain ⟨⟨p0, p1, p2, p3, p4, p5, p6, p7⟩, _⟩ := pdb_cells HQ51.out
  simp only at p0 p1 p2 p3 p4 p5 p6 p7
  have SG := HSG.out V1 (hpAt_below HHW.out HB1.out)
  have HI0 : Hid _ := sgInfo_of HL0.out
  have HON : Hid _ := sgA_one fs0
  have HZS : Hid ((sgA (List.replicate 20 false)).size = (sgA fs0).size) := by show _ = _; rw [sgA_size, sgA_size, HL0.out]; simp
  clear hgY hg3 hY3 hn3Z hZ4 hn2
  have HZS2 : Hid ((#[.bool false, .bool false, .bool false, .bool false, .bool false, .bool false, .bool false, .bool false, .bool false, .bool false, .bool false, .bool false, .bool false, .bool false, .bool false, .bool false, .bool false, .bool false, .bool false, .bool false] : Array Value).size = (sgA fs0).size) := HZS.out
  go_upto_region 10 with (first
    | (go_at_call 53; refine SG.mono ?_; clear SG p0 p1 p2 p3 p4 p5 p6 p7 m0 m1 m2 m3 m4 m5 m6 m7 m8 m9 m10; rintro e V2 ⟨rfl, b6⟩; have HB6 : Hid _ := b6; clear b6)
    | (refine wpList_store_row rfl 81 (.tmp 14) (.tmp 54) rfl V2.heap.size (sgA fs0) rfl rfl 81 _ (heap_alloc_new V2 _) HI0.out HZS2.out HON.out ?_))
  have HQA3 : Hid _ := setRow_heap _ V2.heap.size _ (sgA fs0) _ _ (heap_alloc_new V2 (.cells #[.bool false, .bool false, .bool false, .bool false, .bool false, .bool false, .bool false, .bool false, .bool false, .bool false, .bool false, .bool false, .bool false, .bool false, .bool false, .bool false, .bool false, .bool false, .bool false, .bool false] 81))
  have B73 : Below V2.heap.size V2 ((V2.alloc (.cells #[.bool false, .bool false, .bool false, .bool false, .bool false, .bool false, .bool false, .bool false, .bool false, .bool false, .bool false, .bool false, .bool false, .bool false, .bool false, .bool false, .bool false, .bool false, .bool false, .bool false] 81)).setRow V2.heap.size (sgA fs0)) := below_setRow ((Below.refl _ _).alloc (Nat.le_refl _) _) (Nat.le_refl _) _
  have HB13 : Hid _ := HB6.out.trans (B73.mono HB6.out.size)
  have HN5 : Hid (V1.heap.size ≤ V2.heap.size) := HB6.out.size
  clear B73 HB6
  generalize (V2.alloc (.cells #[.bool false, .bool false, .bool false, .bool false, .bool false, .bool false, .bool false, .bool false, .bool false, .bool false, .bool false, .bool false, .bool false, .bool false, .bool false, .bool false, .bool false, .bool false, .bool false, .bool false] 81)).setRow V2.heap.size (sgA fs0) = V3 at *
  generalize V2.heap.size = n5 at *
  obtain ⟨⟨m0, m1, m2, m3, m4, m5, m6, m7, m8, m9, m10⟩, _⟩ := hob_cells ((HB13.out.block _ (lt_of_block HQ21.out)).trans HQ21.out)
  have YG := HYG.out V3
  have hm20' : (m : Int) < 20 := by omega
  have hmf : m < fs0.length := by rw [HL0.out]; exact hm20
  go_upto_region 11 with (go_at_call 54; refine YG.mono ?_; clear YG m0 m1 m2 m3 m4 m5 m6 m7 m8 m9 m10; rintro e V4 ⟨rfl, b8⟩; have hA4 := (b8.block _ (lt_of_block HQA3.out)).trans HQA3.out; obtain ⟨y0, f0⟩ := sg_cell hA4 hmf; have HA4 : Hid _ := hA4; have HB14 : Hid _ := HB13.out.trans (b8.mono HB13.out.size); clear b8 hA4)
  have C5 : Ch [n5] V4 (V4.setCell ⟨n5, m, none⟩ (.bool yb)) := one_ch _ _ _ _
  have hA5 := sg_store HA4.out m yb
  rw [HSET.out] at hA5
  have HA5 : Hid _ := hA5
  have HC15 : Hid (Ch [n5] V1 (V4.setCell ⟨n5, m, none⟩ (.bool yb))) := (ch_below HB14.out).trans C5
  clear C5 hA5 y0 f0 HA4 HQA3 HB13
  generalize V4.setCell ⟨n5, m, none⟩ (.bool yb) = V5 at *
  have hn5 := HN5.out
  have hgY : Y.heap.size ≤ g1 := (HG.out g1 (in_hblk.1 _ (List.mem_singleton.2 rfl))).1
  have hY3 := HY3.out
  have hn3V : n3 < V1.heap.size := lt_of_block HN31.out
  have hn2Y' := HN2Y.out
  have HN35 : Hid _ := nine_ch HN31.out HC15.out (by simp; omega)
  have HN15 : Hid _ := nine_ch HN11.out HC15.out (by simp; omega)
  have HO5 : Hid (OwnH V5 Y.heap.size (.slice (some ⟨g1, 0, none⟩) H.row.length H.row.length) (.slice (some ⟨g2, 0, none⟩) H.roots.length H.roots.length) (.slice (some ⟨g3, 0, none⟩) H.mourned.length H.mourned.length) (.slice (some ⟨g4, 0, none⟩) H.seen.length H.seen.length) { H with row := H.row.set (j + 1 + m) x }) := ownH_ch (H := { H with row := H.row.set (j + 1 + m) x }) HO1.out HC15.out (fun k hk => by have := (HG.out k hk).2; simp; omega)
  have HBW5 : Hid _ := HB1.out.trans (below_ch HC15.out HB1.out.size (fun k hk => by simp at hk; omega))
  have HQ25 : Hid _ := (HC15.out.block n2 (lt_of_block HQ21.out) (by simp; omega)).trans HQ21.out
  have SW := HSW.out V5 (hpAt_below HHW.out HBW5.out)
  obtain ⟨⟨m0, m1, m2, m3, m4, m5, m6, m7, m8, m9, m10⟩, _⟩ := hob_cells HQ25.out
  have HI1 : Hid _ := sgInfo_of HL1.out
  have HN35s : Hid (n3 < V5.heap.size) := lt_of_block HN35.out
  clear hn5 hgY hY3 hn3V hn2Y'
  go_upto_region 12 with (first
    | (refine wpList_load_row rfl 81 (.tmp 14) rfl n5 rfl 81 (sgA fs1) (0, 0) _ HA5.out Tryz.underlying81 rfl HI1.out ?_)
    | (go_at_call 55; refine SW.mono ?_; clear SW m0 m1 m2 m3 m4 m5 m6 m7 m8 m9 m10; rintro e V6 ⟨u, rfl, O6, b9⟩; obtain ⟨oa, on', oc, rfl⟩ := ints_slice (own_ints O6); have HO6 : Hid _ := O6; have HB6 : Hid _ := b9; obtain ⟨⟨z0, z1, z2, z3, z4⟩, ⟨z5, z6, z7, z8⟩, zf⟩ := nine_cells (nine_below HN35.out b9); have f7 := zf 7; clear O6 b9 zf))
  have C7 : Ch [n3] V6 (V6.setCell ⟨n3, 7, none⟩ (.slice oa on' oc)) := one_ch _ _ _ _
  have HN37 : Hid _ := nine_set7 (nine_below HN35.out HB6.out) (.slice oa on' oc)
  have HC7 : Hid _ := C7
  clear C7 z0 z1 z2 z3 z4 z5 z6 z7 z8 f7
  generalize V6.setCell ⟨n3, 7, none⟩ (.slice oa on' oc) = V7 at *
  have hYS' := HYS.out
  have hY3 := HY3.out
  have HN17 : Hid _ := nine_ch (nine_below HN15.out HB6.out) HC7.out (by simp; omega)
  have HBW7 : Hid _ := (HBW5.out.trans (HB6.out.mono HBW5.out.size)).trans (below_ch HC7.out (Nat.le_trans HBW5.out.size HB6.out.size) (fun k hk => by simp at hk; omega))
  have HO7 : Hid (OwnH V7 Y.heap.size (.slice (some ⟨g1, 0, none⟩) H.row.length H.row.length) (.slice (some ⟨g2, 0, none⟩) H.roots.length H.roots.length) (.slice (some ⟨g3, 0, none⟩) H.mourned.length H.mourned.length) (.slice (some ⟨g4, 0, none⟩) H.seen.length H.seen.length) { H with row := H.row.set (j + 1 + m) x }) := ownH_ch (H := { H with row := H.row.set (j + 1 + m) x }) (ownH_below (H := { H with row := H.row.set (j + 1 + m) x }) HO5.out HB6.out) HC7.out (fun k hk => by have := (HG.out k hk).2; simp; omega)
  have HU7 : Hid (rows.Own V7 V5.heap.size (.slice oa on' oc) (seenL (stoH H p m x))) := row_ch HO6.out HC7.out (fun k hk => by have := (blk_lt HO6.out k hk).1; have := HN35s.out; simp; omega)
  have HEF : Hid (stoF H p m x = { H with row := H.row.set (j + 1 + m) x, seen := seenL (stoH H p m x) }) := by
    show ({ stoH H p m x with seen := seenL (stoH H p m x) } : Hp) = _
    generalize seenL (stoH H p m x) = L
    rw [HSR.out]
  have HV5 : Hid (∀ k ∈ hblk (.slice (some ⟨g1, 0, none⟩) H.row.length H.row.length) (.slice (some ⟨g2, 0, none⟩) H.roots.length H.roots.length) (.slice (some ⟨g3, 0, none⟩) H.mourned.length H.mourned.length) (.slice (some ⟨g4, 0, none⟩) H.seen.length H.seen.length), k < V5.heap.size) := fun k hk => by
    have h1 := (HG.out k hk).2
    have h2 := HN35s.out
    omega
  obtain ⟨⟨z0, z1, z2, z3, z4⟩, ⟨z5, z6, z7, z8⟩, _⟩ := nine_cells HN37.out
  obtain ⟨⟨y0, y1, y2, y3, y4⟩, ⟨y5, y6, y7, y8⟩, yf⟩ := nine_cells HN17.out
  have f0 := yf 0
  have f1 := yf 1
  have f2 := yf 2
  have f3 := yf 3
  have f4 := yf 4
  have f5 := yf 5
  have f6 := yf 6
  have f7 := yf 7
  have f8 := yf 8
  clear yf
  clear hY3
  go_wp2_with fail
  refine bodyPost_ret (res_heap2 rfl rfl rfl (nine_sets HN17.out _ _ _ _ _ _ _ _ _)) rfl ⟨_, _, _, _, rfl, ?_, nine_belows HBW7.out (by omega) _ _ _ _ _ _ _ _ _⟩
  have H5 := HO7.out
  have on : ∀ {v : Value} {xs : List Int} {bb : Nat}, rows.Own V7 bb v xs → Y.heap.size ≤ bb → ∀ {W : World}, Ch [w.heap.size + 1] V7 W → rows.Own W w.heap.size v xs := fun {v xs bb} ho hbb {W} hc => own_base (row_ch ho hc (fun j hj => by have := (blk_lt ho j hj).1; simp; omega)) (by omega)
  have hYV : Y.heap.size ≤ V5.heap.size := by have := HY3.out; have := HN35s.out; omega
  rw [HEF.out]
  refine ⟨⟨on H5.1.1 (Nat.le_refl _) (nine_other _ _ _ _ _ _ _ _ _), on H5.1.2.1 (Nat.le_refl _) (nine_other _ _ _ _ _ _ _ _ _), on H5.1.2.2.1 (Nat.le_refl _) (nine_other _ _ _ _ _ _ _ _ _), on HU7.out hYV (nine_other _ _ _ _ _ _ _ _ _)⟩, ?_⟩
  have hn := H5.2
  unfold hblk at hn ⊢
  rw [List.nodup_append] at hn ⊢
  refine ⟨hn.1, ?_, fun a ha b' hb' e => ?_⟩
  · unfold blk
    cases (Value.slice oa on' oc).ownBlock <;> simp
  · have h1 := (blk_lt HU7.out b' hb').1
    have h2 := HV5.out a (by unfold hblk; exact List.mem_append.2 (.inl ha))
    omega
end Go.Proofs.YthgjnnhmcihinaaGreat.hp
