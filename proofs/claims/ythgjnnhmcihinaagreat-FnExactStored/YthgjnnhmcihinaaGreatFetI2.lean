/-
  Chapter 12 as the program has it: Fetched.
  Made from the template FetI2.
-/
import Derived.Test.YthgjnnhmcihinaaGreatFetI
namespace Go.Proofs.YthgjnnhmcihinaaGreat.hp
open Go.RowKit rows heads words walks region
set_option maxRecDepth 100000
set_option linter.unusedVariables false
set_option linter.unusedSimpArgs false

/-- The Slots of a chunk that stands in a row: where they lie. -/
theorem slots_at {w : World} {b off : Nat} {xs : List Int} {j : Nat} (hl : xs.length ≤ 1000) (hc : chunk xs j ≠ 0) (h6 : uF (xs.getD j 0) ≠ 6) :
    Calls Tryz.prog 48 #[cv (uS (xs.getD j 0)) (uF (xs.getD j 0)) (uC (xs.getD j 0)) (uH (xs.getD j 0)) (uP (xs.getD j 0)) (uM (xs.getD j 0)) (.slice (some ⟨b, off + j, none⟩) (chunk xs j).toNat (chunk xs j).toNat)] w fun e w' => e = .returned (piece (some ⟨b, off + j, none⟩) 1 (cnP (pdOf (some ⟨b, off, none⟩) xs j))) ∧ Below w.heap.size w w' := by
  have q := chunk_fits hc h6
  have hn : (if uF (xs.getD j 0) = 7 then 1 else uS (xs.getD j 0)) = ((cnP (pdOf (some ⟨b, off, none⟩) xs j) : Nat) : Int) := by
    rw [cnP_of]
    by_cases h7 : uF (xs.getD j 0) = 7
    · rw [if_pos h7]; first | rw [if_pos h7]; rfl | omega
    · rw [if_neg h7]; first | (rw [if_neg h7]; omega) | omega
  have hle : 1 + cnP (pdOf (some ⟨b, off, none⟩) xs j) ≤ (chunk xs j).toNat := by
    rw [cnP_of]
    by_cases h7 : uF (xs.getD j 0) = 7
    · rw [if_pos h7]; first | rw [if_pos h7]; rfl | omega
    · rw [if_neg h7]; first | (rw [if_neg h7]; omega) | omega
  exact slots_any _ _ _ _ _ _ b (off + j) (chunk xs j).toNat (cnP (pdOf (some ⟨b, off, none⟩) xs j)) w (by omega) hn hle
theorem hasP_mem (ds : List Pd) (x : Int) : hasP ds x = decide (x ∈ plL ds) := by
  rw [Bool.eq_iff_iff, decide_eq_true_eq]
  unfold hasP plL
  rw [List.any_eq_true, List.mem_map]
  constructor
  · rintro ⟨d, hd, e⟩; exact ⟨d, hd, by simpa using e⟩
  · rintro ⟨d, hd, e⟩; exact ⟨d, hd, by simpa using e⟩
theorem slotB_no {H : Hp} {ps : List Int} {p k : Int} {a : Option Addr} (h : heapOk H = true) (R : Rt H ps) (hn : hasP (objsP a H) p = false) : slotB H ps p k = false := by
  rw [hasP_mem, objs_places h, R.some', Option.getD_some] at hn
  unfold slotB
  rw [hn]; rfl
theorem slotB_yes {H : Hp} {ps : List Int} {p k : Int} {a : Option Addr} (h : heapOk H = true) (R : Rt H ps) (hn : hasP (objsP a H) p = true) : slotB H ps p k = (!(uF (H.row.getD p.toNat 0) == 7) && (decide (0 ≤ k) && decide (k < uS (H.row.getD p.toNat 0)))) := by
  rw [hasP_mem, objs_places h, R.some', Option.getD_some] at hn
  unfold slotB
  rw [hn]; rfl
set_option maxHeartbeats 16000000 in
theorem implFetched {H : Hp} (hI : HpI H) (p k : Int) (w : World) (vr vo vm vs : Value) (h : HpAt w vr vo vm vs H) (hs : hpSize H ≤ 1048576) :
    Calls Tryz.prog 23 #[hpv H vr vo vm vs, .int .i64 p, .int .i64 k] w fun e w' => e = .returned (.tuple #[.int .i64 (fetV H p k), .bool (fetB H p k)]) ∧ Below w.heap.size w w' := by
  obtain ⟨a1, c1, a2, c2, a3, c3, a4, c4, e1, e2, e3, e4⟩ := hpAt_slices h
  subst e1 e2 e3 e4
  obtain ⟨B0, q0, hX⟩ := hp_all h
  obtain ⟨z0, z1, z2, z3, z4, z5, z6, z7, z8⟩ := hpb_cells q0
  have OX := opened_any hX hs hI
  unfold OpenR at OX
  have HB0 : Hid _ := B0
  have HXP : Hid _ := hX
  have HII : Hid _ := hI
  clear h hs hI B0 q0 hX
  obtain ⟨A, hA⟩ : ∃ A, fetV H p k = A := ⟨_, rfl⟩
  obtain ⟨B, hBB⟩ : ∃ B, fetB H p k = B := ⟨_, rfl⟩
  rw [hA, hBB]
  have HA : Hid (A = if B = true then fol H (slotW H p k) else 0) := by show _ = _; rw [← hA, ← hBB]; rfl
  clear hA
  cases hh : heapOk H
  · have R0 := OX.mono (fun e w' (g : _ ∧ _ ∧ _) => (⟨g.1 hh, g.2.2⟩ : e = .returned (.tuple #[hov0, .bool false]) ∧ Below _ _ w'))
    have e : fetB H p k = false := by unfold fetB; rw [hh]; rfl
    obtain rfl : B = false := hBB.symm.trans e
    rw [if_neg (by decide)] at HA
    clear OX hh e hBB
    go_enter Tryz.func23, Tryz.ntmps23
    go_upto_region 2 with (go_at_call 31; refine R0.mono ?_; clear R0 z0 z1 z2 z3 z4 z5 z6 z7 z8; rintro e w1 ⟨rfl, b1⟩; have HB1 : Hid _ := HB0.out.trans (b1.mono HB0.out.size); clear b1)
    have HB2 : Hid _ := HB1.out.alloc HB1.out.size (hob hz s0 s0 s0 s0 0 s0)
    obtain ⟨⟨m0, m1, m2, m3, m4, m5, m6, m7, m8, m9, m10⟩, _⟩ := hob_cells (heap_alloc_new w1 (hob hz s0 s0 s0 s0 0 s0))
    generalize w1.alloc (hob hz s0 s0 s0 s0 0 s0) = Y at *
    have SO := (slotOwner_any (w := Y) (up := 0) (v := .slice none 0 0) (ds := []) (pds_none Y) (fun d hd => by simp at hd) (fun i j h1 h2 => by simp at h2) (by simp) p k).mono (fun e w' (g : _ ∧ _ ∧ _) => (⟨g.1 rfl, g.2.2⟩ : e = .returned (.tuple #[pdv pdD, .bool false]) ∧ Below _ _ w'))
    go_wp2_with (go_at_call 46; refine SO.mono ?_; clear SO; rintro e w2 ⟨rfl, b2⟩; have HB3 : Hid _ := HB2.out.trans (b2.mono HB2.out.size); clear b2)
    go_ret2
    exact ⟨by rw [HA.out]; rfl, HB3.out.alloc HB3.out.size _⟩
  have R0 := OX.mono (fun e w' (g : _ ∧ _ ∧ _) => (⟨g.2.1 hh, g.2.2⟩ : (∃ a5 c5, e = .returned (.tuple #[hov H (.slice a1 H.row.length c1) (.slice a2 H.roots.length c2) (.slice a3 H.mourned.length c3) (.slice a4 H.seen.length c4) (2 * H.half) (.slice a5 (objsP a1 H).length c5), .bool true]) ∧ OwnP w' _ (.slice a5 (objsP a1 H).length c5) (objsP a1 H)) ∧ Below _ _ w'))
  obtain ⟨ps, FP⟩ := folP_of (a := a1) hh
  have hrt := (ok_right hh).1
  rw [← openB_is a1 H] at hrt
  obtain ⟨hn, hro, _⟩ := openB_parts hrt
  have HRA : Hid (∀ V v, HpAt V (.slice a1 H.row.length c1) (.slice a2 H.roots.length c2) (.slice a3 H.mourned.length c3) (.slice a4 H.seen.length c4) H → PdsAt V v (objsP a1 H) → RoomsAt V v (objsP a1 H) (slP H.row)) := fun V v h1 h2 => roomsAt_of h1.1 hn hro HII.out.2.1 h2
  have e : fetB H p k = slotB H ps p k := by unfold fetB; rw [hh, FP.rt.some', Option.getD_some]; rfl
  have HBV : Hid (B = slotB H ps p k) := hBB.symm.trans e
  clear hBB
  have HSO : Hid (∀ V a5 c5, RoomsAt V (.slice a5 (objsP a1 H).length c5) (objsP a1 H) (slP H.row) → Calls Tryz.prog 46 #[rmv (2 * H.half) (.slice a5 (objsP a1 H).length c5), .int .i64 p, .int .i64 k] V fun e w' => (hasP (objsP a1 H) p = false → e = .returned (.tuple #[pdv pdD, .bool false])) ∧ (hasP (objsP a1 H) p = true → ∃ i, i < (objsP a1 H).length ∧ ((objsP a1 H).getD i pdD).pl = p ∧ e = .returned (.tuple #[pdv ((objsP a1 H).getD i pdD), .bool (!(((objsP a1 H).getD i pdD).f == 7) && (decide (0 ≤ k) && decide (k < ((objsP a1 H).getD i pdD).s)))])) ∧ Below V.heap.size V w') := fun V a5 c5 r => slotOwner_any r.pds r.slices r.rise (Nat.le_trans r.len (by decide)) p k
  clear OX hrt e
  go_enter Tryz.func23, Tryz.ntmps23
  go_upto_region 2 with (go_at_call 31; refine R0.mono ?_; clear R0 z0 z1 z2 z3 z4 z5 z6 z7 z8; rintro e w1 ⟨⟨a5, c5, rfl, O1⟩, b1⟩; have HB1 : Hid _ := HB0.out.trans (b1.mono HB0.out.size); have HX1 : Hid _ := hpAt_below HXP.out b1; have HO1 : Hid _ := O1; clear b1 O1)
  have B2 : Below w1.heap.size w1 (w1.alloc (hob H (.slice a1 H.row.length c1) (.slice a2 H.roots.length c2) (.slice a3 H.mourned.length c3) (.slice a4 H.seen.length c4) (2 * H.half) (.slice a5 (objsP a1 H).length c5))) := (Below.refl _ _).alloc (Nat.le_refl _) _
  have HB2 : Hid _ := HB1.out.trans (B2.mono HB1.out.size)
  have HQ2 : Hid _ := heap_alloc_new w1 (hob H (.slice a1 H.row.length c1) (.slice a2 H.roots.length c2) (.slice a3 H.mourned.length c3) (.slice a4 H.seen.length c4) (2 * H.half) (.slice a5 (objsP a1 H).length c5))
  have HH2 : Hid _ := hpAt_below HX1.out B2
  have HR2 : Hid _ := HRA.out _ _ (hpAt_below HX1.out B2) (pdsAt_below (ownP_at HO1.out) B2)
  obtain ⟨⟨m0, m1, m2, m3, m4, m5, m6, m7, m8, m9, m10⟩, _⟩ := hob_cells HQ2.out
  clear B2 HO1 HX1 HRA HXP
  generalize w1.alloc (hob H (.slice a1 H.row.length c1) (.slice a2 H.roots.length c2) (.slice a3 H.mourned.length c3) (.slice a4 H.seen.length c4) (2 * H.half) (.slice a5 (objsP a1 H).length c5)) = Y at *
  generalize w1.heap.size = n1 at *
  have SO := HSO.out Y a5 c5 HR2.out
  clear HSO
  cases hP : hasP (objsP a1 H) p
  · have F0 := SO.mono (fun e w' (hh : _ ∧ _ ∧ _) => (⟨hh.1 hP, hh.2.2⟩ : e = .returned (.tuple #[pdv pdD, .bool false]) ∧ Below Y.heap.size Y w'))
    obtain rfl : B = false := HBV.out.trans (slotB_no hh FP.rt hP)
    rw [if_neg (by decide)] at HA
    clear SO hP hh FP hn hro
    go_wp2_with (go_at_call 46; refine F0.mono ?_; clear F0; rintro e w2 ⟨rfl, b2⟩; have HB3 : Hid _ := HB2.out.trans (b2.mono HB2.out.size); clear b2)
    go_ret2
    exact ⟨by rw [HA.out]; rfl, HB3.out.alloc HB3.out.size _⟩
  have F0 := SO.mono (fun e w' (hh : _ ∧ _ ∧ _) => (⟨hh.2.1 hP, hh.2.2⟩ : (∃ i, i < (objsP a1 H).length ∧ ((objsP a1 H).getD i pdD).pl = p ∧ e = .returned (.tuple #[pdv ((objsP a1 H).getD i pdD), .bool (!(((objsP a1 H).getD i pdD).f == 7) && (decide (0 ≤ k) && decide (k < ((objsP a1 H).getD i pdD).s)))])) ∧ Below Y.heap.size Y w'))
  have hyes := slotB_yes (k := k) hh FP.rt hP
  have hlen := FP.rt.len
  have hrl : H.row ≠ [] := fun e0 => by
    have N := (places_facts FP.rt.some').1
    have h1 := N.len
    have h2 := N.half1.1
    rw [e0] at h1
    simp at h1
    omega
  obtain ⟨b, off, ea, hb, _⟩ := ints_cell (k := 0) HH2.out.1 (List.length_pos_iff.2 hrl)
  subst ea
  have HIN : Hid (∀ i, i < (objsP (some ⟨b, off, none⟩) H).length → ((objsP (some ⟨b, off, none⟩) H).getD i pdD).pl = p → ∃ (j : Nat) (xs xf xc xh : Int) (xp xm : Bool) (cn : Nat), (objsP (some ⟨b, off, none⟩) H).getD i pdD = ⟨xs, xf, xc, xh, xp, xm, .slice (some ⟨b, off + j, none⟩) cn cn, p⟩ ∧ (!(xf == 7) && (decide (0 ≤ k) && decide (k < xs))) = B ∧ Hid (p = j ∧ chunk H.row j ≠ 0 ∧ uF (H.row.getD j 0) ≠ 6 ∧ xs = uS (H.row.getD j 0) ∧ xf = uF (H.row.getD j 0) ∧ xc = uC (H.row.getD j 0) ∧ xh = uH (H.row.getD j 0) ∧ xp = uP (H.row.getD j 0) ∧ xm = uM (H.row.getD j 0) ∧ cn = (chunk H.row j).toNat)) := fun i hi hpl => by
    obtain ⟨j, e, hc, h6⟩ := objs_in hro _ (mem_getDP hi)
    have q := chunk_fits hc h6
    rw [e, pdOf_pl] at hpl
    subst hpl
    refine ⟨j, _, _, _, _, _, _, _, ?_, ?_, ⟨rfl, hc, h6, rfl, rfl, rfl, rfl, rfl, rfl, rfl⟩⟩
    · rw [e]
      unfold pdOf
      rw [piece_at b off j _ (by omega)]
    · rw [Int.toNat_natCast] at hyes
      exact hyes.symm.trans HBV.out.symm
  have HSI : Hid (slotB H ps p k = true → _) := fun e => slot_in FP.rt e
  have HFO : Hid (∀ x, wordIn H ps x = true → I64 x → ∀ V, RoomsAt V (.slice a5 (objsP (some ⟨b, off, none⟩) H).length c5) (objsP (some ⟨b, off, none⟩) H) (slP H.row) → Calls Tryz.prog 47 #[rmv (2 * H.half) (.slice a5 (objsP (some ⟨b, off, none⟩) H).length c5), .int .i64 x] V fun e w' => e = .returned (.int .i64 (fol H x)) ∧ Below V.heap.size V w') := fun x hx hy V r => follow_any r FP x hx hy
  have HAR : Hid _ := HII.out.2.1
  clear SO hP hh FP hn hro HII hrl
  go_upto_region 3 with (go_at_call 46; refine F0.mono ?_; clear F0 m0 m1 m2 m3 m4 m5 m6 m7 m8 m9 m10; rintro e w2 ⟨⟨i, hi, hpl, rfl⟩, b2⟩; obtain ⟨j, xs, xf, xc, xh, xp, xm, cn, hd, hbe, HJ⟩ := HIN.out i hi hpl; rw [hd]; simp only [hbe]; have HB3 : Hid _ := b2; clear b2 HIN hd hpl hi hbe)
  have B4 : Below w2.heap.size w2 (w2.alloc (pdb ⟨xs, xf, xc, xh, xp, xm, .slice (some ⟨b, off + j, none⟩) cn cn, p⟩)) := (Below.refl _ _).alloc (Nat.le_refl _) _
  have HB4 : Hid _ := HB3.out.trans (B4.mono HB3.out.size)
  have HQ4 : Hid _ := heap_alloc_new w2 (pdb ⟨xs, xf, xc, xh, xp, xm, .slice (some ⟨b, off + j, none⟩) cn cn, p⟩)
  clear B4
  generalize w2.alloc (pdb _) = Z at *
  generalize w2.heap.size = n2 at *
  have HBZ : Hid _ := HB2.out.trans (HB4.out.mono HB2.out.size)
  clear hyes
  cases hS : slotB H ps p k
  · obtain rfl : B = false := HBV.out.trans hS
    rw [if_neg (by decide)] at HA
    clear hS HSI HBV HJ
    go_wp2_with fail
    go_ret2
    exact ⟨by rw [HA.out]; rfl, HBZ.out⟩
  obtain rfl : B = true := HBV.out.trans hS
  rw [if_pos rfl] at HA
  obtain ⟨hpj, hc, h6, rfl, rfl, rfl, rfl, rfl, rfl, rfl⟩ := HJ.out
  obtain ⟨j', m, ej, em, hlt, hsw, hwx, _, _, h7, hms⟩ := HSI.out hS
  obtain rfl : j = j' := by omega
  subst em
  rw [hsw] at HA
  have HSL : Hid (∀ V, Calls Tryz.prog 48 #[cv (uS (H.row.getD j 0)) (uF (H.row.getD j 0)) (uC (H.row.getD j 0)) (uH (H.row.getD j 0)) (uP (H.row.getD j 0)) (uM (H.row.getD j 0)) (.slice (some ⟨b, off + j, none⟩) (chunk H.row j).toNat (chunk H.row j).toNat)] V fun e w' => e = .returned (.slice (some ⟨b, off + j + 1, none⟩) (uS (H.row.getD j 0)).toNat (uS (H.row.getD j 0)).toNat) ∧ Below V.heap.size V w') := fun V => by
    have := slots_at (w := V) (b := b) (off := off) hlen hc h6
    rw [cnP_of, if_neg h7, piece_at _ _ _ _ (by omega)] at this
    exact this
  have hxm : H.row.getD (j + 1 + m) 0 ∈ H.row := by rw [List.getD_eq_getElem?_getD, List.getElem?_eq_getElem hlt]; exact List.getElem_mem hlt
  have hxb := HAR.out _ hxm
  have HFX : Hid (∀ V, _) := HFO.out _ hwx hxb
  have hZ := hpAt_below HH2.out HB4.out
  obtain ⟨b', off', ea, hbz, x0⟩ := ints_cell hZ.1 hlt
  injection ea with ea
  injection ea with ea1 ea2
  subst ea1 ea2
  have x1 : Z.cell? ⟨b, off + j + 1 + m, none⟩ = some (.int .i64 (H.row.getD (j + 1 + m) 0)) := by rw [← x0]; congr 2; omega
  have QH := (HB4.out.block n1 (lt_of_block HQ2.out)).trans HQ2.out
  obtain ⟨⟨m0, m1, m2, m3, m4, m5, m6, m7, m8, m9, m10⟩, _⟩ := hob_cells QH
  obtain ⟨⟨p0, p1, p2, p3, p4, p5, p6, p7⟩, _⟩ := pdb_cells HQ4.out
  simp only at p0 p1 p2 p3 p4 p5 p6 p7
  have M9 := cell_grow m9
  have M10 := cell_grow m10
  have P0 := cell_grow p0
  have P1 := cell_grow p1
  have P2 := cell_grow p2
  have P3 := cell_grow p3
  have P4 := cell_grow p4
  have P5 := cell_grow p5
  have P6 := cell_grow p6
  have X1 := cell_grow x1
  have hRZ := HR2.out.below HB4.out
  have hsn : ((uS (H.row.getD j 0)).toNat : Int) = uS (H.row.getD j 0) := by omega
  have hmn : (m : Int) < ((uS (H.row.getD j 0)).toNat : Int) := by omega
  have HF1 : Hid (∀ x' : Ext Z.heap.size Z, Calls Tryz.prog 47 #[rmv (2 * H.half) (.slice a5 (objsP (some ⟨b, off, none⟩) H).length c5), .int .i64 (H.row.getD (j + 1 + m) 0)] x'.to fun e w'' => e = .returned (.int .i64 (fol H (H.row.getD (j + 1 + m) 0))) ∧ ∃ y' : Ext Z.heap.size Z, w'' = y'.to) := fun x' => calls_grow (Nat.le_refl _) (HFX.out _ (hRZ.below x'.below))
  have HS1 : Hid (∀ x' : Ext Z.heap.size Z, Calls Tryz.prog 48 #[cv (uS (H.row.getD j 0)) (uF (H.row.getD j 0)) (uC (H.row.getD j 0)) (uH (H.row.getD j 0)) (uP (H.row.getD j 0)) (uM (H.row.getD j 0)) (.slice (some ⟨b, off + j, none⟩) (chunk H.row j).toNat (chunk H.row j).toNat)] x'.to fun e w'' => e = .returned (.slice (some ⟨b, off + j + 1, none⟩) (uS (H.row.getD j 0)).toNat (uS (H.row.getD j 0)).toNat) ∧ ∃ y' : Ext Z.heap.size Z, w'' = y'.to) := fun x' => calls_grow (Nat.le_refl _) (HSL.out _)
  generalize (uS (H.row.getD j 0)).toNat = sn at *
  generalize (chunk H.row j).toNat = cn at *
  generalize uF (H.row.getD j 0) = xf at *
  generalize uS (H.row.getD j 0) = xs at *
  generalize uC (H.row.getD j 0) = xc at *
  generalize uH (H.row.getD j 0) = xh at *
  generalize uP (H.row.getD j 0) = xp at *
  generalize uM (H.row.getD j 0) = xm at *
  generalize fol H (H.row.getD (j + 1 + m) 0) = fx at *
  generalize H.row.getD (j + 1 + m) 0 = x at *
  clear x0 x1 QH m0 m1 m2 m3 m4 m5 m6 m7 m8 m9 m10 p0 p1 p2 p3 p4 p5 p6 p7 HFX HSL HFO hS HSI hwx hxm hxb hsw ej hsn hms hc h6 h7 hpj HJ HBV
  go_upto_region 5 with fail
  haveI := ext_any Z
  refine region_grow (n := Z.heap.size) (by kernel_rfl) (by kernel_rfl) ?_
  repeat (go_big_quiet_step (first | (go_at_call 48; exact HS1.out _) | (go_at_call 47; exact HF1.out _)))
  refine wpQuiet_nil ?_
  intro _ hw'
  obtain ⟨x', rfl⟩ := hw'
  have HBE : Hid _ := HBZ.out.trans (x'.below.mono HBZ.out.size)
  clear M9 M10 P0 P1 P2 P3 P4 P5 P6 X1 HF1 HS1
  generalize x'.to = W at *
  clear x' this
  go_wp2
  go_ret2
  exact ⟨by rw [HA.out]; rfl, HBE.out⟩
end Go.Proofs.YthgjnnhmcihinaaGreat.hp
