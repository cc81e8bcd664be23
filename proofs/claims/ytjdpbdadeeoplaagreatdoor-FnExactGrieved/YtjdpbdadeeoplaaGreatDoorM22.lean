/-
  Chapter 9 as the program has it: a heap gone through, but for what is seen. Chapter 9 as the program has it: a heap gone through, HeapOk and Young. Chapter 10 as the program has it: Follow. Chapter 10 as the specification has it: HashOf and ClassOf.
-/
import Derived.Test.YtjdpbdadeeoplaaGreatDoorM21
import Derived.Test.YtjdpbdadeeoplaaGreatDoorM19
import Derived.WalkMore
namespace Go.Proofs.YtjdpbdadeeoplaaGreatDoor.hp
open Go.RowKit rows heads words walks
set_option maxRecDepth 100000
set_option linter.unusedVariables false
set_option linter.unusedSimpArgs false

/-- What stays so once the heap's copy and the house to be answered are laid. -/
theorem hpX_all {w : World} {vr vo vm vs : Value} {H : Hp} (h : HpAt w vr vo vm vs H) : ∀ V, Below (((w.alloc (hpb H vr vo vm vs)).alloc (hob hz s0 s0 s0 s0 0 s0))).heap.size (((w.alloc (hpb H vr vo vm vs)).alloc (hob hz s0 s0 s0 s0 0 s0))) V → V.heap[w.heap.size]? = some (hpb H vr vo vm vs) ∧ V.heap[w.heap.size + 1]? = some (hob hz s0 s0 s0 s0 0 s0) ∧ HpAt V vr vo vm vs H ∧ Below w.heap.size w V ∧ w.heap.size + 2 ≤ V.heap.size := by
  intro V hV
  have B0 : Below w.heap.size w (w.alloc (hpb H vr vo vm vs)) := (Below.refl _ _).alloc (Nat.le_refl _) _
  have B1 := B0.alloc B0.size (hob hz s0 s0 s0 s0 0 s0)
  have T1 := heap_alloc_new (w.alloc (hpb H vr vo vm vs)) (hob hz s0 s0 s0 s0 0 s0)
  have T2 : Below (w.heap.size + 1) (w.alloc (hpb H vr vo vm vs)) V := ((Below.refl _ _).alloc (by simp) _).trans (hV.mono (by simp))
  have hs := hV.size
  have q0 : V.heap[w.heap.size]? = some (hpb H vr vo vm vs) := (T2.block _ (by omega)).trans (heap_alloc_new w _)
  have q1 : V.heap[w.heap.size + 1]? = some (hob hz s0 s0 s0 s0 0 s0) := (hV.block (w.heap.size + 1) (by simp)).trans ((congrArg (fun k => (((w.alloc (hpb H vr vo vm vs)).alloc (hob hz s0 s0 s0 s0 0 s0))).heap[k]?) (show w.heap.size + 1 = (w.alloc (hpb H vr vo vm vs)).heap.size by simp)).trans T1)
  exact ⟨q0, q1, hpAt_below h (B1.trans (hV.mono B1.size)), B1.trans (hV.mono B1.size), by simpa using hs⟩
theorem hpb_cells {W : World} {b : Nat} {H : Hp} {vr vo vm vs : Value} (h : W.heap[b]? = some (hpb H vr vo vm vs)) : W.cell? ⟨b, 0, none⟩ = some (.int .i64 H.half) ∧ W.cell? ⟨b, 1, none⟩ = some (.int .i64 H.old) ∧ W.cell? ⟨b, 2, none⟩ = some vr ∧ W.cell? ⟨b, 3, none⟩ = some (.int .i64 H.side) ∧ W.cell? ⟨b, 4, none⟩ = some (.int .i64 H.top) ∧ W.cell? ⟨b, 5, none⟩ = some vo ∧ W.cell? ⟨b, 6, none⟩ = some vm ∧ W.cell? ⟨b, 7, none⟩ = some vs ∧ W.cell? ⟨b, 8, none⟩ = some (.int .i64 H.seed) := by
  refine ⟨?_, ?_, ?_, ?_, ?_, ?_, ?_, ?_, ?_⟩ <;> simp [World.cell?, h]
set_option maxHeartbeats 16000000 in
theorem openedButSeen_any {w : World} {a1 a2 a3 a4 : Option Addr} {c1 c2 c3 c4 : Nat} {H : Hp} (h : HpAt w (.slice a1 H.row.length c1) (.slice a2 H.roots.length c2) (.slice a3 H.mourned.length c3) (.slice a4 H.seen.length c4) H) (hs : hpSize H ≤ 1048576) (hI : HpI H) :
    Calls Tryz.prog 66 #[hpv H (.slice a1 H.row.length c1) (.slice a2 H.roots.length c2) (.slice a3 H.mourned.length c3) (.slice a4 H.seen.length c4)] w fun e w' => (openB a1 H = false → e = .returned (.tuple #[hov0, .bool false])) ∧ (openB a1 H = true → ∃ a5 c5, e = .returned (.tuple #[hov H (.slice a1 H.row.length c1) (.slice a2 H.roots.length c2) (.slice a3 H.mourned.length c3) (.slice a4 H.seen.length c4) (2 * H.half) (.slice a5 (objsP a1 H).length c5), .bool true]) ∧ OwnP w' w.heap.size (.slice a5 (objsP a1 H).length c5) (objsP a1 H)) ∧ Below w.heap.size w w' := by
  have HALL : Hid _ := hpX_all h
  have HNU : Hid (∀ V, HpAt V (.slice a1 H.row.length c1) (.slice a2 H.roots.length c2) (.slice a3 H.mourned.length c3) (.slice a4 H.seen.length c4) H → Calls Tryz.prog 112 #[hpv H (.slice a1 H.row.length c1) (.slice a2 H.roots.length c2) (.slice a3 H.mourned.length c3) (.slice a4 H.seen.length c4)] V fun e w' => e = .returned (.bool (numB H)) ∧ Below V.heap.size V w') := fun V hV => numbersOk_any hV
  have HSZ : Hid _ := hs
  have HII : Hid _ := hI
  clear h hs hI
  cases hn : numB H
  · have HO : Hid (openB a1 H = false) := by show _ = _; unfold openB; rw [hn]; rfl
    simp only [hn] at HNU
    clear hn
    go_enter Tryz.func66, Tryz.ntmps66
    go_upto_region 1 with fail
    generalize (w.alloc _).alloc _ = X at *
    obtain ⟨q0, _, hX, _, _⟩ := HALL.out X (Below.refl _ _)
    obtain ⟨z0, z1, z2, z3, z4, z5, z6, z7, z8⟩ := hpb_cells q0
    have NU := HNU.out X hX
    clear q0 hX
    go_wp2_with (go_at_call 112; refine NU.mono ?_; clear NU z0 z1 z2 z3 z4 z5 z6 z7 z8; rintro e w1 ⟨rfl, b1⟩; obtain ⟨_, q1, _, bw, s1⟩ := HALL.out w1 b1; obtain ⟨⟨g0, g1, g2, g3, g4, g5, g6, g7, g8, g9, g10⟩, f0, f1, f2, f3, f4, f5, f6, f7, f8, f9, f10⟩ := hob_cells q1; have HQ1 : Hid _ := q1; have HBW : Hid _ := bw; clear q1 bw b1)
    exact bodyPost_ret (res_ho rfl rfl rfl (hob_set HQ1.out hz s0 s0 s0 s0 0 s0)) rfl ⟨fun _ => rfl, fun e => absurd (HO.out.symm.trans e) (by decide), hob_below HBW.out (by omega) hz s0 s0 s0 s0 0 s0⟩
  simp only [hn] at HNU
  have HRO : Hid (∀ V, HpAt V (.slice a1 H.row.length c1) (.slice a2 H.roots.length c2) (.slice a3 H.mourned.length c3) (.slice a4 H.seen.length c4) H → Calls Tryz.prog 82 #[hpv H (.slice a1 H.row.length c1) (.slice a2 H.roots.length c2) (.slice a3 H.mourned.length c3) (.slice a4 H.seen.length c4)] V fun e w' => (roomB a1 H = false → e = .returned (.tuple #[.agg #[.int .i64 0, .slice none 0 0], .bool false])) ∧ (roomB a1 H = true → ∃ v', e = .returned (.tuple #[.agg #[.int .i64 (2 * H.half), v'], .bool true]) ∧ OwnP w' V.heap.size v' (objsP a1 H)) ∧ Below V.heap.size V w') := fun V hV => roomsOf_any hV hn HII.out.2.1
  go_enter Tryz.func66, Tryz.ntmps66
  go_upto_region 1 with fail
  generalize (w.alloc _).alloc _ = X at *
  obtain ⟨q0, _, hX, _, _⟩ := HALL.out X (Below.refl _ _)
  obtain ⟨z0, z1, z2, z3, z4, z5, z6, z7, z8⟩ := hpb_cells q0
  have NU := HNU.out X hX
  clear q0 hX
  go_upto_region 3 with (go_at_call 112; refine NU.mono ?_; clear NU z0 z1 z2 z3 z4 z5 z6 z7 z8; rintro e w1 ⟨rfl, b1⟩; have HB1 : Hid _ := b1; clear b1)
  obtain ⟨q0, _, h1, _, s1⟩ := HALL.out w1 HB1.out
  obtain ⟨z0, z1, z2, z3, z4, z5, z6, z7, z8⟩ := hpb_cells q0
  have RO := HRO.out w1 h1
  clear q0 h1 HNU HRO
  cases hr : roomB a1 H
  · have HO : Hid (openB a1 H = false) := by show _ = _; unfold openB; rw [hn, hr]; rfl
    have R0 := RO.mono (fun e w' (hh : _ ∧ _ ∧ _) => (⟨hh.1 hr, hh.2.2⟩ : e = .returned (.tuple #[.agg #[.int .i64 0, .slice none 0 0], .bool false]) ∧ Below w1.heap.size w1 w'))
    clear RO hr hn
    go_upto_region 4 with (go_at_call 82; refine R0.mono ?_; clear R0 z0 z1 z2 z3 z4 z5 z6 z7 z8; rintro e w2 ⟨rfl, b2⟩; have HB2 : Hid _ := b2; clear b2)
    have B3 : Below w2.heap.size w2 (w2.alloc (rmb 0 s0)) := (Below.refl _ _).alloc (Nat.le_refl _) _
    have B2 := HB1.out.trans (HB2.out.mono HB1.out.size)
    have HB3 : Hid _ := B2.trans (B3.mono B2.size)
    obtain ⟨q0, _⟩ := HALL.out _ HB3.out
    obtain ⟨z0, z1, z2, z3, z4, z5, z6, z7, z8⟩ := hpb_cells q0
    obtain ⟨⟨r0, r1⟩, _⟩ := rmb_cells (heap_alloc_new w2 (rmb 0 s0))
    clear B3 B2 q0
    generalize w2.alloc (rmb 0 s0) = W3 at *
    go_upto_region 5 with fail
    have B4 : Below W3.heap.size W3 (W3.alloc (hob H (.slice a1 H.row.length c1) (.slice a2 H.roots.length c2) (.slice a3 H.mourned.length c3) (.slice a4 H.seen.length c4) 0 s0)) := (Below.refl _ _).alloc (Nat.le_refl _) _
    obtain ⟨_, q1, _, bw, s3⟩ := HALL.out _ (HB3.out.trans (B4.mono HB3.out.size))
    obtain ⟨⟨g0, g1, g2, g3, g4, g5, g6, g7, g8, g9, g10⟩, f0, f1, f2, f3, f4, f5, f6, f7, f8, f9, f10⟩ := hob_cells q1
    have HQ1 : Hid _ := q1
    have HBW : Hid _ := bw
    clear q1 bw B4 z0 z1 z2 z3 z4 z5 z6 z7 z8 r0 r1
    generalize W3.alloc (hob H (.slice a1 H.row.length c1) (.slice a2 H.roots.length c2) (.slice a3 H.mourned.length c3) (.slice a4 H.seen.length c4) 0 s0) = Y at *
    go_wp2_with fail
    exact bodyPost_ret (res_ho rfl rfl rfl (hob_set HQ1.out hz s0 s0 s0 s0 0 s0)) rfl ⟨fun _ => rfl, fun e => absurd (HO.out.symm.trans e) (by decide), hob_below HBW.out (by omega) hz s0 s0 s0 s0 0 s0⟩
  have R0 := RO.mono (fun e w' (hh : _ ∧ _ ∧ _) => (⟨hh.2.1 hr, hh.2.2⟩ : (∃ v', e = .returned (.tuple #[.agg #[.int .i64 (2 * H.half), v'], .bool true]) ∧ OwnP w' w1.heap.size v' (objsP a1 H)) ∧ Below w1.heap.size w1 w'))
  clear RO
  have HO : Hid (openB a1 H = (holdS (objsP a1 H) (slP H.row) && endsOk H ((objsP a1 H).map (·.pl)) && lstB H (objsP a1 H))) := by show _ = _; unfold openB; rw [hn, hr, Bool.true_and, Bool.true_and]
  have HNR : Hid (numB H = true ∧ roomB a1 H = true) := ⟨hn, hr⟩
  have HRA : Hid (∀ V v, HpAt V (.slice a1 H.row.length c1) (.slice a2 H.roots.length c2) (.slice a3 H.mourned.length c3) (.slice a4 H.seen.length c4) H → PdsAt V v (objsP a1 H) → RoomsAt V v (objsP a1 H) (slP H.row)) := fun V v h1 h2 => roomsAt_of h1.1 hn hr HII.out.2.1 h2
  have HNT : Hid (holdS (objsP a1 H) (slP H.row) = true → NoteP (objsP a1 H) (slP H.row) (ntH H) (nxH H)) := fun hS => noteP_of hn hr hS
  have HEN : Hid (holdS (objsP a1 H) (slP H.row) = true → (endsOk H ((objsP a1 H).map (·.pl)) = true ↔ ∀ i, i < (objsP a1 H).length → Fins (ntH H) (nxH H) ((objsP a1 H).getD i pdD).pl)) := fun hS => ends_iff hr hS
  clear hn hr
  go_upto_region 4 with (go_at_call 82; refine R0.mono ?_; clear R0 z0 z1 z2 z3 z4 z5 z6 z7 z8; rintro e w2 ⟨⟨v2, rfl, O2⟩, b2⟩; have HB2 : Hid _ := b2; have HO2 : Hid _ := O2; obtain ⟨a5, c5, rfl⟩ := pds_slice (ownP_at O2); clear b2 O2)
  have B3 : Below w2.heap.size w2 (w2.alloc (rmb (2 * H.half) (.slice a5 (objsP a1 H).length c5))) := (Below.refl _ _).alloc (Nat.le_refl _) _
  have B2 := HB1.out.trans (HB2.out.mono HB1.out.size)
  have HBa : Hid _ := B2.trans (B3.mono B2.size)
  have HOa : Hid _ := ownP_below HO2.out B3
  obtain ⟨q0, _⟩ := HALL.out _ HBa.out
  obtain ⟨z0, z1, z2, z3, z4, z5, z6, z7, z8⟩ := hpb_cells q0
  obtain ⟨⟨r0, r1⟩, _⟩ := rmb_cells (heap_alloc_new w2 (rmb (2 * H.half) (.slice a5 (objsP a1 H).length c5)))
  clear B3 B2 q0 HO2 HB2
  generalize w2.alloc (rmb (2 * H.half) (.slice a5 (objsP a1 H).length c5)) = W3 at *
  go_upto_region 5 with fail
  have B4 : Below W3.heap.size W3 (W3.alloc (hob H (.slice a1 H.row.length c1) (.slice a2 H.roots.length c2) (.slice a3 H.mourned.length c3) (.slice a4 H.seen.length c4) (2 * H.half) (.slice a5 (objsP a1 H).length c5))) := (Below.refl _ _).alloc (Nat.le_refl _) _
  have HB3 : Hid (Below X.heap.size X (W3.alloc (hob H (.slice a1 H.row.length c1) (.slice a2 H.roots.length c2) (.slice a3 H.mourned.length c3) (.slice a4 H.seen.length c4) (2 * H.half) (.slice a5 (objsP a1 H).length c5)))) := HBa.out.trans (B4.mono HBa.out.size)
  have HQ3 : Hid _ := heap_alloc_new W3 (hob H (.slice a1 H.row.length c1) (.slice a2 H.roots.length c2) (.slice a3 H.mourned.length c3) (.slice a4 H.seen.length c4) (2 * H.half) (.slice a5 (objsP a1 H).length c5))
  have HO3 : Hid _ := ownP_below HOa.out B4
  clear B4 z0 z1 z2 z3 z4 z5 z6 z7 z8 r0 r1 HOa HBa
  generalize W3.alloc (hob H (.slice a1 H.row.length c1) (.slice a2 H.roots.length c2) (.slice a3 H.mourned.length c3) (.slice a4 H.seen.length c4) (2 * H.half) (.slice a5 (objsP a1 H).length c5)) = Y at *
  generalize W3.heap.size = n3 at *
  have HY : Hid (∀ V, Below Y.heap.size Y V → V.heap[n3]? = some (hob H (.slice a1 H.row.length c1) (.slice a2 H.roots.length c2) (.slice a3 H.mourned.length c3) (.slice a4 H.seen.length c4) (2 * H.half) (.slice a5 (objsP a1 H).length c5)) ∧ V.heap[w.heap.size + 1]? = some (hob hz s0 s0 s0 s0 0 s0) ∧ HpAt V (.slice a1 H.row.length c1) (.slice a2 H.roots.length c2) (.slice a3 H.mourned.length c3) (.slice a4 H.seen.length c4) H ∧ RoomsAt V (.slice a5 (objsP a1 H).length c5) (objsP a1 H) (slP H.row) ∧ OwnP V w1.heap.size (.slice a5 (objsP a1 H).length c5) (objsP a1 H) ∧ Below w.heap.size w V ∧ w.heap.size + 2 ≤ V.heap.size) := by
    intro V hV
    obtain ⟨_, k1, k2, k3, k4⟩ := HALL.out V (HB3.out.trans (hV.mono HB3.out.size))
    exact ⟨(hV.block _ (lt_of_block HQ3.out)).trans HQ3.out, k1, k2, HRA.out V _ k2 (ownP_at (ownP_below HO3.out hV)), ownP_below HO3.out hV, k3, k4⟩
  have HS1 : Hid (∀ V, RoomsAt V (.slice a5 (objsP a1 H).length c5) (objsP a1 H) (slP H.row) → Calls Tryz.prog 113 #[rmv (2 * H.half) (.slice a5 (objsP a1 H).length c5)] V fun e w' => e = .returned (.bool (holdS (objsP a1 H) (slP H.row))) ∧ Below V.heap.size V w') := fun V r => holdsSlots_any r.pds r.slices r.rise (Nat.le_trans r.len (by decide)) r.slots
  have HS2 : Hid (holdS (objsP a1 H) (slP H.row) = true → ∀ V, RoomsAt V (.slice a5 (objsP a1 H).length c5) (objsP a1 H) (slP H.row) → Calls Tryz.prog 114 #[rmv (2 * H.half) (.slice a5 (objsP a1 H).length c5)] V fun e w' => e = .returned (.bool (endsOk H ((objsP a1 H).map (·.pl)))) ∧ Below V.heap.size V w') := fun hS V r => notesEnd_any r.pds r.slices r.rise (Nat.le_trans r.len (by decide)) r.slots (HNT.out hS) (HEN.out hS)
  have HS3 : Hid (∀ V, HpAt V (.slice a1 H.row.length c1) (.slice a2 H.roots.length c2) (.slice a3 H.mourned.length c3) (.slice a4 H.seen.length c4) H → RoomsAt V (.slice a5 (objsP a1 H).length c5) (objsP a1 H) (slP H.row) → Calls Tryz.prog 115 #[hov H (.slice a1 H.row.length c1) (.slice a2 H.roots.length c2) (.slice a3 H.mourned.length c3) (.slice a4 H.seen.length c4) (2 * H.half) (.slice a5 (objsP a1 H).length c5)] V fun e w' => e = .returned (.bool (lstB H (objsP a1 H))) ∧ Below V.heap.size V w') := fun V h1 r => listsOk_any h1 HSZ.out HII.out.2.2.1 HII.out.2.2.2.1 r
  obtain ⟨P1, hP1⟩ : ∃ P, holdS (objsP a1 H) (slP H.row) = P := ⟨_, rfl⟩
  obtain ⟨P2, hP2⟩ : ∃ P, endsOk H ((objsP a1 H).map (·.pl)) = P := ⟨_, rfl⟩
  obtain ⟨P3, hP3⟩ : ∃ P, lstB H (objsP a1 H) = P := ⟨_, rfl⟩
  rw [hP1, hP2, hP3] at HO
  simp only [hP1] at HS1 HS2
  simp only [hP2] at HS2
  simp only [hP3] at HS3
  clear hP1 hP2 hP3 HNT HEN HRA HALL HB1 HB3 HQ3 HO3 HNR HSZ HII
  obtain ⟨qY, _, hY, rY, _, _, _⟩ := HY.out Y (Below.refl _ _)
  obtain ⟨⟨m0, m1, m2, m3, m4, m5, m6, m7, m8, m9, m10⟩, _⟩ := hob_cells qY
  have C1 := HS1.out Y rY
  clear qY hY rY HS1
  cases P1
  · rw [Bool.false_and, Bool.false_and] at HO
    clear HS2 HS3
    go_wp2_with (go_at_call 113; refine C1.mono ?_; clear C1 m0 m1 m2 m3 m4 m5 m6 m7 m8 m9 m10; rintro e w5 ⟨rfl, b5⟩; obtain ⟨_, q1, _, _, _, bw, s5⟩ := HY.out w5 b5; obtain ⟨⟨g0, g1, g2, g3, g4, g5, g6, g7, g8, g9, g10⟩, f0, f1, f2, f3, f4, f5, f6, f7, f8, f9, f10⟩ := hob_cells q1; have HQ1 : Hid _ := q1; have HBW : Hid _ := bw; clear q1 bw b5)
    exact bodyPost_ret (res_ho rfl rfl rfl (hob_set HQ1.out hz s0 s0 s0 s0 0 s0)) rfl ⟨fun _ => rfl, fun e => absurd (HO.out.symm.trans e) (by decide), hob_below HBW.out (by omega) hz s0 s0 s0 s0 0 s0⟩
  rw [Bool.true_and] at HO
  cases P2
  · rw [Bool.false_and] at HO
    clear HS3
    go_wp2_with (first
      | (go_at_call 113; refine C1.mono ?_; clear C1 m0 m1 m2 m3 m4 m5 m6 m7 m8 m9 m10; rintro e w5 ⟨rfl, b5⟩; obtain ⟨qY, _, _, rY, _⟩ := HY.out w5 b5; obtain ⟨⟨m0, m1, m2, m3, m4, m5, m6, m7, m8, m9, m10⟩, _⟩ := hob_cells qY; have C2 := HS2.out (by trivial) w5 rY; have HB5 : Hid _ := b5; clear b5 qY rY HS2)
      | (go_at_call 114; refine C2.mono ?_; clear C2 m0 m1 m2 m3 m4 m5 m6 m7 m8 m9 m10; rintro e w6 ⟨rfl, b6⟩; obtain ⟨_, q1, _, _, _, bw, s6⟩ := HY.out w6 (HB5.out.trans (b6.mono HB5.out.size)); obtain ⟨⟨g0, g1, g2, g3, g4, g5, g6, g7, g8, g9, g10⟩, f0, f1, f2, f3, f4, f5, f6, f7, f8, f9, f10⟩ := hob_cells q1; have HQ1 : Hid _ := q1; have HBW : Hid _ := bw; clear q1 bw b6))
    exact bodyPost_ret (res_ho rfl rfl rfl (hob_set HQ1.out hz s0 s0 s0 s0 0 s0)) rfl ⟨fun _ => rfl, fun e => absurd (HO.out.symm.trans e) (by decide), hob_below HBW.out (by omega) hz s0 s0 s0 s0 0 s0⟩
  rw [Bool.true_and] at HO
  cases P3
  · go_wp2_with (first
      | (go_at_call 113; refine C1.mono ?_; clear C1 m0 m1 m2 m3 m4 m5 m6 m7 m8 m9 m10; rintro e w5 ⟨rfl, b5⟩; obtain ⟨qY, _, _, rY, _⟩ := HY.out w5 b5; obtain ⟨⟨m0, m1, m2, m3, m4, m5, m6, m7, m8, m9, m10⟩, _⟩ := hob_cells qY; have C2 := HS2.out (by trivial) w5 rY; have HB5 : Hid _ := b5; clear b5 qY rY HS2)
      | (go_at_call 114; refine C2.mono ?_; clear C2 m0 m1 m2 m3 m4 m5 m6 m7 m8 m9 m10; rintro e w6 ⟨rfl, b6⟩; have HB6 : Hid _ := HB5.out.trans (b6.mono HB5.out.size); obtain ⟨qY, _, hY, rY, _⟩ := HY.out w6 HB6.out; obtain ⟨⟨m0, m1, m2, m3, m4, m5, m6, m7, m8, m9, m10⟩, _⟩ := hob_cells qY; have C3 := HS3.out w6 hY rY; clear b6 qY hY rY HS3)
      | (go_at_call 115; refine C3.mono ?_; clear C3 m0 m1 m2 m3 m4 m5 m6 m7 m8 m9 m10; rintro e w7 ⟨rfl, b7⟩; obtain ⟨_, q1, _, _, _, bw, s7⟩ := HY.out w7 (HB6.out.trans (b7.mono HB6.out.size)); obtain ⟨⟨g0, g1, g2, g3, g4, g5, g6, g7, g8, g9, g10⟩, f0, f1, f2, f3, f4, f5, f6, f7, f8, f9, f10⟩ := hob_cells q1; have HQ1 : Hid _ := q1; have HBW : Hid _ := bw; clear q1 bw b7))
    exact bodyPost_ret (res_ho rfl rfl rfl (hob_set HQ1.out hz s0 s0 s0 s0 0 s0)) rfl ⟨fun _ => rfl, fun e => absurd (HO.out.symm.trans e) (by decide), hob_below HBW.out (by omega) hz s0 s0 s0 s0 0 s0⟩
  go_wp2_with (first
    | (go_at_call 113; refine C1.mono ?_; clear C1 m0 m1 m2 m3 m4 m5 m6 m7 m8 m9 m10; rintro e w5 ⟨rfl, b5⟩; obtain ⟨qY, _, _, rY, _⟩ := HY.out w5 b5; obtain ⟨⟨m0, m1, m2, m3, m4, m5, m6, m7, m8, m9, m10⟩, _⟩ := hob_cells qY; have C2 := HS2.out (by trivial) w5 rY; have HB5 : Hid _ := b5; clear b5 qY rY HS2)
    | (go_at_call 114; refine C2.mono ?_; clear C2 m0 m1 m2 m3 m4 m5 m6 m7 m8 m9 m10; rintro e w6 ⟨rfl, b6⟩; have HB6 : Hid _ := HB5.out.trans (b6.mono HB5.out.size); obtain ⟨qY, _, hY, rY, _⟩ := HY.out w6 HB6.out; obtain ⟨⟨m0, m1, m2, m3, m4, m5, m6, m7, m8, m9, m10⟩, _⟩ := hob_cells qY; have C3 := HS3.out w6 hY rY; clear b6 qY hY rY HS3)
    | (go_at_call 115; refine C3.mono ?_; clear C3 m0 m1 m2 m3 m4 m5 m6 m7 m8 m9 m10; rintro e w7 ⟨rfl, b7⟩; obtain ⟨qY, q1, _, _, o7, bw, s7⟩ := HY.out w7 (HB6.out.trans (b7.mono HB6.out.size)); obtain ⟨⟨g0, g1, g2, g3, g4, g5, g6, g7, g8, g9, g10⟩, f0, f1, f2, f3, f4, f5, f6, f7, f8, f9, f10⟩ := hob_cells q1; obtain ⟨⟨m0, m1, m2, m3, m4, m5, m6, m7, m8, m9, m10⟩, _⟩ := hob_cells qY; have HQ1 : Hid _ := q1; have HBW : Hid _ := bw; have HO7 : Hid _ := o7; clear q1 qY bw b7 o7))
  refine bodyPost_ret (res_ho rfl rfl rfl (hob_set HQ1.out H (.slice a1 H.row.length c1) (.slice a2 H.roots.length c2) (.slice a3 H.mourned.length c3) (.slice a4 H.seen.length c4) (2 * H.half) (.slice a5 (objsP a1 H).length c5))) rfl ⟨fun e => absurd (HO.out.symm.trans e) (by decide), fun _ => ⟨a5, c5, rfl, ?_⟩, hob_below HBW.out (by omega) H (.slice a1 H.row.length c1) (.slice a2 H.roots.length c2) (.slice a3 H.mourned.length c3) (.slice a4 H.seen.length c4) (2 * H.half) (.slice a5 (objsP a1 H).length c5)⟩
  refine ownP_base (row_ch (S := [w.heap.size + 1]) HO7.out (hob_ch _ _ _ _ _ _ _ _ _) (fun k hk => ?_)) (by omega)
  have := (blk_lt HO7.out k hk).1
  simp
  omega
end Go.Proofs.YtjdpbdadeeoplaaGreatDoor.hp
namespace Go.Proofs.YtjdpbdadeeoplaaGreatDoor.hp
open Go.RowKit rows heads words walks
set_option maxRecDepth 100000
set_option linter.unusedVariables false
set_option linter.unusedSimpArgs false

/-- What opened answers. -/
def OpenR (w : World) (a1 a2 a3 a4 : Option Addr) (c1 c2 c3 c4 : Nat) (H : Hp) (e : Ending) (w' : World) : Prop := (heapOk H = false → e = .returned (.tuple #[hov0, .bool false])) ∧ (heapOk H = true → ∃ a5 c5, e = .returned (.tuple #[hov H (.slice a1 H.row.length c1) (.slice a2 H.roots.length c2) (.slice a3 H.mourned.length c3) (.slice a4 H.seen.length c4) (2 * H.half) (.slice a5 (objsP a1 H).length c5), .bool true]) ∧ OwnP w' w.heap.size (.slice a5 (objsP a1 H).length c5) (objsP a1 H)) ∧ Below w.heap.size w w'
set_option maxHeartbeats 16000000 in
theorem opened_any {w : World} {a1 a2 a3 a4 : Option Addr} {c1 c2 c3 c4 : Nat} {H : Hp} (h : HpAt w (.slice a1 H.row.length c1) (.slice a2 H.roots.length c2) (.slice a3 H.mourned.length c3) (.slice a4 H.seen.length c4) H) (hs : hpSize H ≤ 1048576) (hI : HpI H) :
    Calls Tryz.prog 31 #[hpv H (.slice a1 H.row.length c1) (.slice a2 H.roots.length c2) (.slice a3 H.mourned.length c3) (.slice a4 H.seen.length c4)] w (OpenR w a1 a2 a3 a4 c1 c2 c3 c4 H) := by
  unfold OpenR
  have HOK : Hid _ := okB_is a1 H
  have HALL : Hid _ := hpX_all h
  have HOB : Hid (∀ V, HpAt V (.slice a1 H.row.length c1) (.slice a2 H.roots.length c2) (.slice a3 H.mourned.length c3) (.slice a4 H.seen.length c4) H → Calls Tryz.prog 66 #[hpv H (.slice a1 H.row.length c1) (.slice a2 H.roots.length c2) (.slice a3 H.mourned.length c3) (.slice a4 H.seen.length c4)] V fun e w' => (openB a1 H = false → e = .returned (.tuple #[hov0, .bool false])) ∧ (openB a1 H = true → ∃ a5 c5, e = .returned (.tuple #[hov H (.slice a1 H.row.length c1) (.slice a2 H.roots.length c2) (.slice a3 H.mourned.length c3) (.slice a4 H.seen.length c4) (2 * H.half) (.slice a5 (objsP a1 H).length c5), .bool true]) ∧ OwnP w' V.heap.size (.slice a5 (objsP a1 H).length c5) (objsP a1 H)) ∧ Below V.heap.size V w') := fun V hV => openedButSeen_any hV hs hI
  have HII : Hid _ := hI
  have HSZ : Hid (H.seen.length ≤ 1048576) := by unfold hpSize at hs; show _ ≤ _; omega
  clear h hs hI
  go_enter Tryz.func31, Tryz.ntmps31
  go_upto_region 1 with fail
  generalize (w.alloc _).alloc _ = X at *
  obtain ⟨q0, _, hX, _, _⟩ := HALL.out X (Below.refl _ _)
  obtain ⟨z0, z1, z2, z3, z4, z5, z6, z7, z8⟩ := hpb_cells q0
  have OX := HOB.out X hX
  clear q0 hX HOB
  cases ho : openB a1 H
  · have HO : Hid (heapOk H = false) := by show _ = _; rw [← HOK.out]; unfold okB; rw [ho]; rfl
    have R0 := OX.mono (fun e w' (hh : _ ∧ _ ∧ _) => (⟨hh.1 ho, hh.2.2⟩ : e = .returned (.tuple #[hov0, .bool false]) ∧ Below X.heap.size X w'))
    clear OX ho HOK
    go_upto_region 2 with (go_at_call 66; refine R0.mono ?_; clear R0 z0 z1 z2 z3 z4 z5 z6 z7 z8; rintro e w1 ⟨rfl, b1⟩; have HB1 : Hid _ := b1; clear b1)
    have B2 : Below w1.heap.size w1 (w1.alloc (hob hz s0 s0 s0 s0 0 s0)) := (Below.refl _ _).alloc (Nat.le_refl _) _
    have HB2 : Hid _ := HB1.out.trans (B2.mono HB1.out.size)
    clear B2
    generalize w1.alloc (hob hz s0 s0 s0 s0 0 s0) = Y at *
    go_quiet (fail)
    have HD : Hid (Below Y.heap.size Y (Y.drewN nq)) := bel_of_drewN ⟨_, rfl⟩
    generalize Y.drewN nq = Y1 at *
    obtain ⟨_, q1, _, bw, s3⟩ := HALL.out Y1 (HB2.out.trans (HD.out.mono HB2.out.size))
    obtain ⟨⟨g0, g1, g2, g3, g4, g5, g6, g7, g8, g9, g10⟩, f0, f1, f2, f3, f4, f5, f6, f7, f8, f9, f10⟩ := hob_cells q1
    have HQ1 : Hid _ := q1
    have HBW : Hid _ := bw
    clear q1 bw
    go_wp2_with fail
    exact bodyPost_ret (res_ho rfl rfl rfl (hob_set HQ1.out hz s0 s0 s0 s0 0 s0)) rfl ⟨fun _ => rfl, fun e => absurd (HO.out.symm.trans e) (by decide), hob_below HBW.out (by omega) hz s0 s0 s0 s0 0 s0⟩
  have R0 := OX.mono (fun e w' (hh : _ ∧ _ ∧ _) => (⟨hh.2.1 ho, hh.2.2⟩ : (∃ a5 c5, e = .returned (.tuple #[hov H (.slice a1 H.row.length c1) (.slice a2 H.roots.length c2) (.slice a3 H.mourned.length c3) (.slice a4 H.seen.length c4) (2 * H.half) (.slice a5 (objsP a1 H).length c5), .bool true]) ∧ OwnP w' X.heap.size (.slice a5 (objsP a1 H).length c5) (objsP a1 H)) ∧ Below X.heap.size X w'))
  obtain ⟨hn, hr, _⟩ := openB_parts ho
  have HO : Hid (heapOk H = decide (H.seen = mustL (2 * H.half) (slP H.row) (objsP a1 H))) := by show _ = _; rw [← HOK.out]; unfold okB; rw [ho]; rfl
  have HRA : Hid (∀ V v, HpAt V (.slice a1 H.row.length c1) (.slice a2 H.roots.length c2) (.slice a3 H.mourned.length c3) (.slice a4 H.seen.length c4) H → PdsAt V v (objsP a1 H) → RoomsAt V v (objsP a1 H) (slP H.row)) := fun V v h1 h2 => roomsAt_of h1.1 hn hr HII.out.2.1 h2
  clear OX ho HOK hn hr
  go_upto_region 2 with (go_at_call 66; refine R0.mono ?_; clear R0 z0 z1 z2 z3 z4 z5 z6 z7 z8; rintro e w1 ⟨⟨a5, c5, rfl, O1⟩, b1⟩; have HB1 : Hid _ := b1; have HO1 : Hid _ := O1; clear b1 O1)
  have B2 : Below w1.heap.size w1 (w1.alloc (hob H (.slice a1 H.row.length c1) (.slice a2 H.roots.length c2) (.slice a3 H.mourned.length c3) (.slice a4 H.seen.length c4) (2 * H.half) (.slice a5 (objsP a1 H).length c5))) := (Below.refl _ _).alloc (Nat.le_refl _) _
  have HB2 : Hid _ := HB1.out.trans (B2.mono HB1.out.size)
  have HQ2 : Hid _ := heap_alloc_new w1 (hob H (.slice a1 H.row.length c1) (.slice a2 H.roots.length c2) (.slice a3 H.mourned.length c3) (.slice a4 H.seen.length c4) (2 * H.half) (.slice a5 (objsP a1 H).length c5))
  have HO2 : Hid _ := ownP_below HO1.out B2
  clear B2 HO1
  generalize w1.alloc (hob H (.slice a1 H.row.length c1) (.slice a2 H.roots.length c2) (.slice a3 H.mourned.length c3) (.slice a4 H.seen.length c4) (2 * H.half) (.slice a5 (objsP a1 H).length c5)) = Y at *
  generalize w1.heap.size = n1 at *
  have HY : Hid (∀ V, Below Y.heap.size Y V → V.heap[n1]? = some (hob H (.slice a1 H.row.length c1) (.slice a2 H.roots.length c2) (.slice a3 H.mourned.length c3) (.slice a4 H.seen.length c4) (2 * H.half) (.slice a5 (objsP a1 H).length c5)) ∧ V.heap[w.heap.size + 1]? = some (hob hz s0 s0 s0 s0 0 s0) ∧ HpAt V (.slice a1 H.row.length c1) (.slice a2 H.roots.length c2) (.slice a3 H.mourned.length c3) (.slice a4 H.seen.length c4) H ∧ RoomsAt V (.slice a5 (objsP a1 H).length c5) (objsP a1 H) (slP H.row) ∧ OwnP V X.heap.size (.slice a5 (objsP a1 H).length c5) (objsP a1 H) ∧ Below w.heap.size w V ∧ w.heap.size + 2 ≤ V.heap.size) := by
    intro V hV
    obtain ⟨_, k1, k2, k3, k4⟩ := HALL.out V (HB2.out.trans (hV.mono HB2.out.size))
    exact ⟨(hV.block _ (lt_of_block HQ2.out)).trans HQ2.out, k1, k2, HRA.out V _ k2 (ownP_at (ownP_below HO2.out hV)), ownP_below HO2.out hV, k3, k4⟩
  have HM : Hid (∀ V, Below Y.heap.size Y V → Calls Tryz.prog 68 #[rmv (2 * H.half) (.slice a5 (objsP a1 H).length c5)] V fun e w' => ∃ u, e = .returned u ∧ rows.Own w' V.heap.size u (mustL (2 * H.half) (slP H.row) (objsP a1 H)) ∧ Below V.heap.size V w') := fun V hV => by
    obtain ⟨_, _, _, r, _⟩ := HY.out V hV
    exact mustSee_any r.pds r.slices (Nat.le_trans r.len (by decide)) r.slots
  have HE : Hid (∀ V u, Below Y.heap.size Y V → IntsAt V u (mustL (2 * H.half) (slP H.row) (objsP a1 H)) → Calls Tryz.prog 67 #[.slice a4 H.seen.length c4, u] V fun e w' => e = .returned (.bool (heapOk H)) ∧ Below V.heap.size V w') := fun V u hV hu => by
    obtain ⟨_, _, k2, r, _⟩ := HY.out V hV
    have := equal_any k2.2.2.2 hu HSZ.out (Nat.le_trans (mustL_len _ _ _) (Nat.le_trans r.len (by decide)))
    rwa [← HO.out] at this
  have sX2 : w.heap.size + 2 ≤ X.heap.size := (HALL.out X (Below.refl _ _)).2.2.2.2
  obtain ⟨P, hP⟩ : ∃ P, heapOk H = P := ⟨_, rfl⟩
  simp only [hP] at HE
  have HPP : Hid _ := hP
  clear HO HRA HALL HB1 HB2 HQ2 HO2 HII HSZ hP
  obtain ⟨qY, _⟩ := HY.out Y (Below.refl _ _)
  obtain ⟨⟨m0, m1, m2, m3, m4, m5, m6, m7, m8, m9, m10⟩, _⟩ := hob_cells qY
  clear qY
  go_cut [22] from 11 to 22 (fun v wz => v = .bool (!P) ∧ Hid (Below Y.heap.size Y wz))
  case first =>
    have HG : Hid (∀ (V w' : World), Below V.heap.size V w' → Below Y.heap.size Y V → w'.heap[n1]? = some (hob H (.slice a1 H.row.length c1) (.slice a2 H.roots.length c2) (.slice a3 H.mourned.length c3) (.slice a4 H.seen.length c4) (2 * H.half) (.slice a5 (objsP a1 H).length c5)) ∧ Below Y.heap.size Y w') := by
      intro V w' h1 h2
      have h3 : Below Y.heap.size Y w' := h2.trans (h1.mono h2.size)
      exact ⟨(HY.out w' h3).1, h3⟩
    go_region_law (first
      | (go_simp; go_at_call 68; refine Calls.mono (HM.out _ ⟨rfl, rfl, rfl, Nat.le_refl _, fun _ _ => rfl⟩) ?_; rintro e w5 ⟨u5, rfl, o5, b5⟩; obtain ⟨q5, x5⟩ := HG.out _ _ b5 ⟨rfl, rfl, rfl, Nat.le_refl _, fun _ _ => rfl⟩; obtain ⟨⟨p0, p1, p2, p3, p4, p5, p6, p7, p8, p9, p10⟩, _⟩ := hob_cells q5; have HO5 : Hid _ := own_ints o5; obtain ⟨ua, uc, hu5, _⟩ := own_ints o5; subst hu5; have HX5 : Hid _ := x5; clear HM o5 b5 q5 x5)
      | (go_simp; go_at_call 67; refine Calls.mono (HE.out _ _ ⟨HX5.out.os, HX5.out.tape, HX5.out.output, HX5.out.size, HX5.out.block⟩ HO5.out) ?_; rintro e w6 ⟨rfl, b6⟩; have HX6 : Hid (Below Y.heap.size Y w6) := (HG.out w5 w6 ⟨b6.os, b6.tape, b6.output, b6.size, b6.block⟩ HX5.out).2; clear HE b6))
    all_goals (go_wp2_with fail)
    all_goals (go_meet; exact ⟨rfl, HX6.out⟩)
  obtain ⟨rfl, bc⟩ := hcut
  clear m0 m1 m2 m3 m4 m5 m6 m7 m8 m9 m10 HM HE
  obtain ⟨qY, q1, _, _, o7, bw, s7⟩ := HY.out wc bc.out
  obtain ⟨⟨g0, g1, g2, g3, g4, g5, g6, g7, g8, g9, g10⟩, f0, f1, f2, f3, f4, f5, f6, f7, f8, f9, f10⟩ := hob_cells q1
  have HQ1 : Hid _ := q1
  have HBW : Hid _ := bw
  have HO7 : Hid _ := o7
  cases P
  · clear q1 qY bw o7
    go_wp2_with fail
    exact bodyPost_ret (res_ho rfl rfl rfl (hob_set HQ1.out hz s0 s0 s0 s0 0 s0)) rfl ⟨fun _ => rfl, fun e => absurd (HPP.out.symm.trans e) (by decide), hob_below HBW.out (by omega) hz s0 s0 s0 s0 0 s0⟩
  · obtain ⟨⟨m0, m1, m2, m3, m4, m5, m6, m7, m8, m9, m10⟩, _⟩ := hob_cells qY
    clear q1 qY bw o7
    go_wp2_with fail
    refine bodyPost_ret (res_ho rfl rfl rfl (hob_set HQ1.out H (.slice a1 H.row.length c1) (.slice a2 H.roots.length c2) (.slice a3 H.mourned.length c3) (.slice a4 H.seen.length c4) (2 * H.half) (.slice a5 (objsP a1 H).length c5))) rfl ⟨fun e => absurd (HPP.out.symm.trans e) (by decide), fun _ => ⟨a5, c5, rfl, ?_⟩, hob_below HBW.out (by omega) H (.slice a1 H.row.length c1) (.slice a2 H.roots.length c2) (.slice a3 H.mourned.length c3) (.slice a4 H.seen.length c4) (2 * H.half) (.slice a5 (objsP a1 H).length c5)⟩
    refine ownP_base (row_ch (S := [w.heap.size + 1]) HO7.out (hob_ch _ _ _ _ _ _ _ _ _) (fun k hk => ?_)) (by omega)
    have := (blk_lt HO7.out k hk).1
    simp
    omega
theorem hp_all {w : World} {vr vo vm vs : Value} {H : Hp} (h : HpAt w vr vo vm vs H) : Below w.heap.size w (w.alloc (hpb H vr vo vm vs)) ∧ (w.alloc (hpb H vr vo vm vs)).heap[w.heap.size]? = some (hpb H vr vo vm vs) ∧ HpAt (w.alloc (hpb H vr vo vm vs)) vr vo vm vs H := by
  have B0 : Below w.heap.size w (w.alloc (hpb H vr vo vm vs)) := (Below.refl _ _).alloc (Nat.le_refl _) _
  exact ⟨B0, heap_alloc_new _ _, hpAt_below h B0⟩
end Go.Proofs.YtjdpbdadeeoplaaGreatDoor.hp
namespace Go.Proofs.YtjdpbdadeeoplaaGreatDoor.hp
open Go.RowKit rows heads words walks
set_option maxRecDepth 100000
set_option linter.unusedVariables false
set_option linter.unusedSimpArgs false

/-- What the program knows of notes, as the heap has it. -/
structure FolP (H : Hp) (ps : List Int) (ds : List Pd) (sl : Pd → List Int) : Prop where
  rt : Rt H ps
  note : NoteP ds sl (ntH H) (nxH H)
  word : ∀ x, holdW ds x = wordIn H ps x
  first : ∀ i, i < ds.length → (ds.getD i pdD).f = 7 → (sl (ds.getD i pdD)).getD 0 0 = H.row.getD ((ds.getD i pdD).pl.toNat + 1) 0
theorem folP_of {a : Option Addr} {H : Hp} (h : heapOk H = true) : ∃ ps, FolP H ps (objsP a H) (slP H.row) := by
  have hr := (ok_right h).1
  obtain ⟨ps, R⟩ := rt_of hr
  rw [← openB_is a H] at hr
  obtain ⟨hn, hro, hS, _, _⟩ := openB_parts hr
  have hb : placesB H = some ps := by
    have := R.some'
    unfold placesR at this
    split at this
    · cases this
    · exact this
  have RM := rooms_of (a := a) hn hro hb R.some'
  refine ⟨ps, R, noteP_of hn hro hS, RM.word, fun i hi h7 => ?_⟩
  obtain ⟨j, e, hc, h6⟩ := objs_in hro _ (mem_getDP hi)
  rw [e] at h7 ⊢
  rw [(slP_note (a := a) hc h7).2, pdOf_pl, Int.toNat_natCast]; rfl
set_option maxHeartbeats 16000000 in
theorem follow_any {w : World} {up : Int} {a : Option Addr} {cap : Nat} {H : Hp} {ps : List Int} {ds : List Pd} {sl : Pd → List Int} (hv : RoomsAt w (.slice a ds.length cap) ds sl) (hF : FolP H ps ds sl) (x : Int) (hx : wordIn H ps x = true) (hb : I64 x) :
    Calls Tryz.prog 156 #[rmv up (.slice a ds.length cap), .int .i64 x] w fun e w' => e = .returned (.int .i64 (fol H x)) ∧ Below w.heap.size w w' := by
  have B0 : Below w.heap.size w (w.alloc (rmb up (.slice a ds.length cap))) := (Below.refl _ _).alloc (Nat.le_refl _) _
  have HALL : Hid (∀ V, Below (w.alloc (rmb up (.slice a ds.length cap))).heap.size (w.alloc (rmb up (.slice a ds.length cap))) V → (V.cell? ⟨w.heap.size, 0, none⟩ = some (.int .i64 up) ∧ V.cell? ⟨w.heap.size, 1, none⟩ = some (.slice a ds.length cap)) ∧ Below w.heap.size w V) := by
    intro V hV
    have q0 : V.heap[w.heap.size]? = some (rmb up (.slice a ds.length cap)) := (hV.block _ (by simp)).trans (heap_alloc_new w _)
    exact ⟨(rmb_cells q0).1, B0.trans (hV.mono B0.size)⟩
  have HLB : Hid (∀ V, Below w.heap.size w V → ∀ x, I64 x → Calls Tryz.prog 121 #[rmv up (.slice a ds.length cap), .int .i64 x] V fun e w' => (ledB ds x = false → e = .returned (.tuple #[pdv pdD, .bool false])) ∧ (ledB ds x = true → ∃ i, i < ds.length ∧ (ds.getD i pdD).pl = av x ∧ e = .returned (.tuple #[pdv (ds.getD i pdD), .bool true])) ∧ Below V.heap.size V w') := fun V hV x hx => ledBy_any (pdsAt_below hv.pds hV) hv.slices hv.rise (Nat.le_trans hv.len (by decide)) x hx.1 hx.2
  have HSL : Hid _ := hv.slices
  have HSP : Hid _ := hv.slots
  have HFP : Hid _ := hF
  obtain ⟨A, hA⟩ : ∃ A, fol H x = A := ⟨_, rfl⟩
  rw [hA]
  have HA : Hid _ := hA
  have HX : Hid _ := hx
  have HXB : Hid _ := hb
  clear hv hF B0 hA hx hb
  go_enter Tryz.func156, Tryz.ntmps156
  go_wp2_with fail
  generalize w.alloc (rmb up (.slice a ds.length cap)) = X at *
  go_step3
  go_wp2_with fail
  go_step3
  go_wp2_with fail
  go_loopw [1, 5, 6] (fun u _ _ wz => ∃ y : Int, u = .int .i64 y ∧ wordIn H ps y = true ∧ I64 y ∧ fol H y = A ∧ Below X.heap.size X wz) (fun u _ _ _ => rk H (intOf u))
  case atStart => exact ⟨x, rfl, HX.out, HXB.out, HA.out, Below.refl _ _⟩
  case round =>
    obtain ⟨y, rfl, hy, hyb, hF, hB⟩ := hrel
    clear HA HX HXB
    have HB : Hid _ := hB
    obtain ⟨⟨z0, z1⟩, bw⟩ := HALL.out wr hB
    have LB := HLB.out wr bw y hyb
    have hw := HFP.out.word y
    rw [hy] at hw
    cases hl : ledB ds y
    · have HE : Hid (A = y) := by
        show _ = _
        rw [← hF]
        refine fol_stop ?_
        unfold toNote
        unfold ledB at hl
        unfold holdW at hw
        cases e : isA y
        · rfl
        · rw [e] at hl hw
          rw [Bool.true_and] at hl
          rw [if_pos rfl, hl] at hw
          cases hw
      have L0 := LB.mono (fun e w' (hh : _ ∧ _ ∧ _) => (⟨hh.1 hl, hh.2.2⟩ : e = .returned (.tuple #[pdv pdD, .bool false]) ∧ Below wr.heap.size wr w'))
      have HBW : Hid _ := bw
      clear LB hl hw hF hy bw hB
      go_upto_region 2 with (go_at_call 121; refine L0.mono ?_; clear L0 z0 z1; rintro e w3 ⟨rfl, b3⟩; have HB3 : Hid _ := HBW.out.trans (b3.mono HBW.out.size); clear b3)
      obtain ⟨⟨p0, p1, p2, p3, p4, p5, p6, p7⟩, _⟩ := pdb_cells (heap_alloc_new w3 (pdb pdD))
      have HB4 : Hid _ := HB3.out.alloc HB3.out.size (pdb pdD)
      generalize w3.alloc (pdb pdD) = Y at *
      go_wp2
      try rw [Exit.noGoto_ret]
      go_ret
      exact ⟨by rw [HE.out]; rfl, HB4.out⟩
    · have L0 := LB.mono (fun e w' (hh : _ ∧ _ ∧ _) => (⟨hh.2.1 hl, hh.2.2⟩ : (∃ i, i < ds.length ∧ (ds.getD i pdD).pl = av y ∧ e = .returned (.tuple #[pdv (ds.getD i pdD), .bool true])) ∧ Below wr.heap.size wr w'))
      have hAy : isA y = true := by
        unfold ledB at hl
        rw [Bool.and_eq_true] at hl
        exact hl.1
      have HST : Hid (toNote H y = false → A = y) := fun e => by rw [← hF]; exact fol_stop e
      have HNT : Hid (toNote H y = true → _) := fun e => HFP.out.rt.note hy e
      have HFY : Hid _ := hF
      have HBW : Hid _ := bw
      have HAY : Hid _ := hAy
      clear LB hl hw hF hy bw hB hAy
      go_upto_region 2 with (go_at_call 121; refine L0.mono ?_; clear L0 z0 z1; rintro e w3 ⟨⟨i, hi, hpl, rfl⟩, b3⟩; have HB3 : Hid (Below X.heap.size X w3) := HB.out.trans (b3.mono HB.out.size); obtain ⟨sa, sn, sc, hsv⟩ := HSL.out _ (mem_getDP hi); have HN1 : Hid _ := HFP.out.note.isNote i hi; have HSO : Hid _ := HFP.out.note.some' i hi; have HFI : Hid _ := HFP.out.first i hi; have HSC : Hid _ := (fun V hV => HSP.out.call V hV i hi); have HSN : Hid _ := HSP.out.num i hi; obtain ⟨d, hd⟩ : ∃ d, ds.getD i pdD = d := ⟨_, rfl⟩; simp only [hd] at hsv hpl HN1 HSO HFI HSC HSN; rw [hd]; obtain ⟨ds', df, dc, dh, dp, dm, du, dl⟩ := d; simp only at hsv hpl HN1 HSO HFI HSC; subst hsv; have HPL : Hid _ := hpl; clear b3 hd hpl)
      obtain ⟨⟨p0, p1, p2, p3, p4, p5, p6, p7⟩, _⟩ := pdb_cells (heap_alloc_new w3 (pdb ⟨ds', df, dc, dh, dp, dm, .slice sa sn sc, dl⟩))
      simp only at p0 p1 p2 p3 p4 p5 p6 p7
      have HB4 : Hid (Below X.heap.size X (w3.alloc (pdb ⟨ds', df, dc, dh, dp, dm, .slice sa sn sc, dl⟩))) := HB3.out.alloc HB3.out.size _
      generalize w3.alloc (pdb ⟨ds', df, dc, dh, dp, dm, .slice sa sn sc, dl⟩) = Y at *
      have htn : toNote H y = (df == 7) := by unfold toNote; rw [HAY.out, Bool.true_and, ← HPL.out]; exact HN1.out.symm
      cases h7 : (df == 7)
      · have h7' : ¬ df = 7 := by simpa using h7
        have HE : Hid (A = y) := HST.out (by rw [htn]; exact h7)
        have HBE : Hid _ := (HALL.out Y HB4.out).2
        clear htn HST HNT
        go_wp2
        try rw [Exit.noGoto_ret]
        go_ret
        exact ⟨by rw [HE.out]; rfl, HBE.out⟩
      · obtain rfl : df = 7 := by simpa using h7
        obtain ⟨_, n2, n3, n4, n5⟩ := HNT.out (by rw [htn]; rfl)
        have hxp := HSO.out (by trivial)
        have hfi := HFI.out (by trivial)
        have hz : noteW H y = (sl ⟨ds', 7, dc, dh, dp, dm, .slice sa sn sc, dl⟩).getD 0 0 := by unfold noteW; rw [← HPL.out]; exact hfi.symm
        have hzb := getD_num HSN.out hxp
        have BY := (HALL.out Y HB4.out).2
        have NA := note_any (w := Y) hxp (fun V' hV' => HSC.out V' (BY.trans (hV'.mono BY.size)))
        rw [← hz] at NA hzb
        have HN : Hid (wordIn H ps (noteW H y) = true ∧ I64 (noteW H y) ∧ fol H (noteW H y) = A ∧ rk H (noteW H y) < rk H y) := ⟨n2, hzb, by rw [← n4]; exact HFY.out, n5⟩
        clear htn HST HNT h7 hz hfi hxp hzb n2 n3 n4 n5 BY
        generalize noteW H y = z at *
        go_wp2_with (go_at_call 153; refine NA.mono ?_; clear NA p0 p1 p2 p3 p4 p5 p6 p7; rintro e w5 ⟨rfl, b5⟩; have HB5 : Hid _ := HB4.out.trans (b5.mono HB4.out.size); clear b5)
        exact ⟨⟨z, rfl, HN.out.1, HN.out.2.1, HN.out.2.2.1, HB5.out⟩, HN.out.2.2.2⟩
end Go.Proofs.YtjdpbdadeeoplaaGreatDoor.hp
namespace Go.Proofs.YtjdpbdadeeoplaaGreatDoor.hp
open Go.RowKit rows heads words walks region
set_option maxRecDepth 100000
set_option linter.unusedVariables false
set_option linter.unusedSimpArgs false

/-- Does this root lead to an object? -/
def rootOk (H : Hp) (r : Int) : Bool := heapOk H && inR 0 5 r && isA (fol H (H.roots.getD r.toNat 0))
/-- Its head. -/
def rootX (H : Hp) (r : Int) : Int := H.row.getD (av (fol H (H.roots.getD r.toNat 0))).toNat 0
def hashOk (H : Hp) (r : Int) : Int := if rootOk H r = true then uH (rootX H r) else -1
def classOk (H : Hp) (r : Int) : Int := if rootOk H r = true then uC (rootX H r) else -1
theorem res_hd2 {fn : Func} {tmps : Array Value} {X : World} {j i b : Nat} {s f c h : Int} {p m bb : Bool} (hf : fn.results = #[.cell j 54, .tmp i]) (h2 : tmps[j]? = some (.pointer (some ⟨b, 0, none⟩))) (hi : tmps[i]? = some (.bool bb)) (hX : HeadAt X b s f c h p m) :
    (results fn tmps).run Tryz.prog X = .ok (.tuple #[hv s f c h p m, .bool bb]) X := by
  obtain ⟨k0, k1, k2, k3, k4, k5, _⟩ := headAt_cells hX
  clear hX
  simp [results, hf, h2, hi, go_sem, k0, k1, k2, k3, k4, k5]
theorem hdX_all {w : World} {vr vo vm vs : Value} {H : Hp} (h : HpAt w vr vo vm vs H) : ∀ V, Below ((w.alloc (hpb H vr vo vm vs)).alloc (hb 0 0 0 0 false false)).heap.size ((w.alloc (hpb H vr vo vm vs)).alloc (hb 0 0 0 0 false false)) V → Nine V w.heap.size 26 (.int .i64 H.half) (.int .i64 H.old) vr (.int .i64 H.side) (.int .i64 H.top) vo vm vs (.int .i64 H.seed) ∧ HeadAt V (w.heap.size + 1) 0 0 0 0 false false ∧ HpAt V vr vo vm vs H ∧ Below w.heap.size w V ∧ w.heap.size + 2 ≤ V.heap.size := by
  intro V hV
  have B0 : Below w.heap.size w (w.alloc (hpb H vr vo vm vs)) := (Below.refl _ _).alloc (Nat.le_refl _) _
  have B1 := B0.alloc B0.size (hb 0 0 0 0 false false)
  have T1 := heap_alloc_new (w.alloc (hpb H vr vo vm vs)) (hb 0 0 0 0 false false)
  have T2 : Below (w.heap.size + 1) (w.alloc (hpb H vr vo vm vs)) V := ((Below.refl _ _).alloc (by simp) _).trans (hV.mono (by simp))
  have hs := hV.size
  have q0 : V.heap[w.heap.size]? = some (hpb H vr vo vm vs) := (T2.block _ (by omega)).trans (heap_alloc_new w _)
  have q1 : V.heap[w.heap.size + 1]? = some (hb 0 0 0 0 false false) := (hV.block (w.heap.size + 1) (by simp)).trans ((congrArg (fun k => ((w.alloc (hpb H vr vo vm vs)).alloc (hb 0 0 0 0 false false)).heap[k]?) (show w.heap.size + 1 = (w.alloc (hpb H vr vo vm vs)).heap.size by simp)).trans T1)
  exact ⟨q0, q1, hpAt_below h (B1.trans (hV.mono B1.size)), B1.trans (hV.mono B1.size), by simpa using hs⟩
end Go.Proofs.YtjdpbdadeeoplaaGreatDoor.hp
