/-
  Chapter 14 as the specification has it: Nilled. Chapter 14 as the program has it: what is refused.
-/
import Derived.Test.YtacilbilnbmcbaaGreatDoorNilS
import Derived.Test.YtacilbilnbmcbaaGreatDoorM22
import Derived.Test.YtacilbilnbmcbaaGreatDoorM19
import Derived.Test.YtacilbilnbmcbaaGreatDoorM18
import Derived.Test.YtacilbilnbmcbaaGreatDoorErrI2
import Derived.Test.YtacilbilnbmcbaaGreatDoorM24
import Derived.Test.YtacilbilnbmcbaaGreatDoorM23
import Derived.Test.YtacilbilnbmcbaaGreatDoorM21
import Derived.Deep.RegionLaw
import Derived.BigQuiet
namespace Go.Proofs.YtacilbilnbmcbaaGreatDoor.hp
open Go.RowKit rows heads words walks
set_option maxRecDepth 100000
set_option linter.unusedVariables false
set_option linter.unusedSimpArgs false

/-- What Nilled answers. -/
def nilOk (H : Hp) (L : List Int) : Hp := if heapOk H = true then nilF H L else hp0
theorem nilOk_size {H : Hp} {L : List Int} (hM : IsMarksOk H L) (hs : hpSize H ≤ 1048576) : hpSize (nilOk H L) ≤ 1048576 := by
  unfold nilOk
  split
  · rename_i h
    obtain ⟨ps, R⟩ := rt_of (ok_right h).1
    have hL : IsMarks H L := by
      rcases hM with ⟨e, _⟩ | ⟨_, e⟩
      · rw [h] at e; cases e
      · exact e
    obtain ⟨hp', hup, hN, hnb⟩ := sim_places R.some' (marks_objL R hL) (H' := nilH H L) (nil_dif (fun q h => covW_cov h)) rfl rfl rfl rfl rfl rfl rfl
    obtain ⟨_, _, r, u, _, hu, _, e⟩ := places_facts hp'
    have hl := (places_plc hp').2
    rw [e, List.length_append] at hl
    have hsn : (seenL (nilH H L)).length ≤ 500 := by
      unfold seenL
      rw [hu, Option.getD_some]
      exact Nat.le_trans (List.length_filter_le _ _) (by omega)
    have hrl := R.len
    have hdl := nilP_len H L (covW H L)
    have N := (places_facts R.some').1
    have hr6 := N.roots
    have hm40 := N.mourned
    show (nilP H L (covW H L)).length + H.roots.length + H.mourned.length + (seenL (nilH H L)).length ≤ _
    omega
  · exact Nat.zero_le _
set_option maxHeartbeats 16000000 in
theorem sNilled_any {w : World} {vr vo vm vs : Value} {H : Hp} {L : List Int} (hM : IsMarksOk H L) (h : HpAt w vr vo vm vs H) (hs : hpSize H ≤ 1048576) :
    Calls Tryz.prog 12 #[hpv H vr vo vm vs] w fun e w' => ∃ (o' r' m' s' : Value), e = .returned (hpv (nilOk H L) o' r' m' s') ∧ OwnH w' w.heap.size o' r' m' s' (nilOk H L) ∧ Below w.heap.size w w' := by
  obtain ⟨a1, c1, a2, c2, a3, c3, a4, c4, e1, e2, e3, e4⟩ := hpAt_slices h
  subst e1 e2 e3 e4
  have B0 : Below w.heap.size w (w.alloc (hpb H (.slice a1 H.row.length c1) (.slice a2 H.roots.length c2) (.slice a3 H.mourned.length c3) (.slice a4 H.seen.length c4))) := (Below.refl _ _).alloc (Nat.le_refl _) _
  have B1 := B0.alloc B0.size (hpb ⟨0, 0, [], 0, 0, [], [], [], 0⟩ (.slice none 0 0) (.slice none 0 0) (.slice none 0 0) (.slice none 0 0))
  have T0 := nine_new w H (.slice a1 H.row.length c1) (.slice a2 H.roots.length c2) (.slice a3 H.mourned.length c3) (.slice a4 H.seen.length c4)
  have T0' := nine_below T0 ((Below.refl _ _).alloc (Nat.le_refl _) (hpb ⟨0, 0, [], 0, 0, [], [], [], 0⟩ (.slice none 0 0) (.slice none 0 0) (.slice none 0 0) (.slice none 0 0)))
  have T1 : Nine ((w.alloc (hpb H (.slice a1 H.row.length c1) (.slice a2 H.roots.length c2) (.slice a3 H.mourned.length c3) (.slice a4 H.seen.length c4))).alloc (hpb ⟨0, 0, [], 0, 0, [], [], [], 0⟩ (.slice none 0 0) (.slice none 0 0) (.slice none 0 0) (.slice none 0 0))) (w.heap.size + 1) 26 (.int .i64 0) (.int .i64 0) (.slice none 0 0) (.int .i64 0) (.int .i64 0) (.slice none 0 0) (.slice none 0 0) (.slice none 0 0) (.int .i64 0) := (congrArg (fun k => ((w.alloc (hpb H (.slice a1 H.row.length c1) (.slice a2 H.roots.length c2) (.slice a3 H.mourned.length c3) (.slice a4 H.seen.length c4))).alloc (hpb ⟨0, 0, [], 0, 0, [], [], [], 0⟩ (.slice none 0 0) (.slice none 0 0) (.slice none 0 0) (.slice none 0 0))).heap[k]?) (show w.heap.size + 1 = (w.alloc (hpb H (.slice a1 H.row.length c1) (.slice a2 H.roots.length c2) (.slice a3 H.mourned.length c3) (.slice a4 H.seen.length c4))).heap.size by simp)).trans (heap_alloc_new _ _)
  have sX : w.heap.size + 2 = ((w.alloc (hpb H (.slice a1 H.row.length c1) (.slice a2 H.roots.length c2) (.slice a3 H.mourned.length c3) (.slice a4 H.seen.length c4))).alloc (hpb ⟨0, 0, [], 0, 0, [], [], [], 0⟩ (.slice none 0 0) (.slice none 0 0) (.slice none 0 0) (.slice none 0 0))).heap.size := by simp
  have HHX := hpAt_below h B1
  have HB1 : Hid _ := B1
  have HT0 : Hid _ := T0'
  have HT1 : Hid _ := T1
  have HSZ : Hid _ := hs
  obtain ⟨R, hR⟩ : ∃ R, nilOk H L = R := ⟨_, rfl⟩
  rw [hR]
  have HR : Hid _ := hR
  clear h B0 B1 T0 T0' T1 hR
  go_enter Tryz.func12, Tryz.ntmps12
  go_upto_region 1 with fail
  generalize hX : (w.alloc _).alloc _ = X at *
  have HsX : Hid _ := sX
  clear hX sX
  have HK := sHeapOk_any HHX hs
  have HH : Hid _ := HHX
  clear HHX hs
  obtain ⟨⟨z0, z1, z2, z3, z4⟩, ⟨z5, z6, z7, z8⟩, _⟩ := nine_cells HT0.out
  cases dr : heapOk H
  · rw [dr] at HK
    have e : nilOk H L = hp0 := by unfold nilOk; rw [if_neg (by rw [dr]; decide)]
    obtain rfl : hp0 = R := e.symm.trans HR.out
    clear dr e HR hM
    go_upto_region 2 with (go_at_call 15; refine HK.mono ?_; clear HK z0 z1 z2 z3 z4 z5 z6 z7 z8; rintro e w2 ⟨rfl, b2⟩; have HBE : Hid _ := HB1.out.trans (b2.mono HB1.out.size); have HN1 : Hid _ := nine_below HT1.out b2; clear b2)
    obtain ⟨⟨y0, y1, y2, y3, y4⟩, ⟨y5, y6, y7, y8⟩, yf⟩ := nine_cells HN1.out
    have f0 := yf 0
    have f1 := yf 1
    have f2 := yf 2
    have f3 := yf 3
    have f4 := yf 4
    have f5 := yf 5
    have f6 := yf 6
    have f7 := yf 7
    have f8 := yf 8
    clear yf
    go_wp2_with fail
    exact bodyPost_ret (res_heap rfl rfl (nine_sets HN1.out _ _ _ _ _ _ _ _ _)) rfl ⟨_, _, _, _, rfl, own0 _ _, nine_belows HBE.out (by omega) _ _ _ _ _ _ _ _ _⟩
  · rw [dr] at HK
    obtain ⟨ps, RR⟩ := rt_of (ok_right dr).1
    have e : nilOk H L = nilF H L := by unfold nilOk; rw [if_pos dr]
    obtain rfl : nilF H L = R := e.symm.trans HR.out
    have HML : Hid (IsMarks H L) := by
      rcases hM with ⟨e, _⟩ | ⟨_, e⟩
      · rw [dr] at e; cases e
      · exact e
    have HRR : Hid _ := RR
    have HCP : Hid (∀ V, HpAt V (.slice a1 H.row.length c1) (.slice a2 H.roots.length c2) (.slice a3 H.mourned.length c3) (.slice a4 H.seen.length c4) H → _) := fun V hV => l9Copy_any hV HSZ.out
    clear dr e RR HR hM
    go_upto_region 4 with (first
      | (go_at_call 15; refine HK.mono ?_; clear HK z0 z1 z2 z3 z4 z5 z6 z7 z8; rintro e w2 ⟨rfl, b2⟩; have HB2 : Hid _ := HB1.out.trans (b2.mono HB1.out.size); have HX2 : Hid _ := b2.size; obtain ⟨⟨z0, z1, z2, z3, z4⟩, ⟨z5, z6, z7, z8⟩, _⟩ := nine_cells (nine_below HT0.out b2); have HN1 : Hid _ := nine_below HT1.out b2; have CP := HCP.out w2 (hpAt_below HH.out b2); clear b2 HCP)
      | (go_at_call 16; refine CP.mono ?_; clear CP z0 z1 z2 z3 z4 z5 z6 z7 z8; rintro e w3 ⟨g1, g2, g3, k1, k2, k3, s', rfl, O3, b3⟩; have HO3 : Hid _ := O3; have HB3 : Hid _ := HB2.out.trans (b3.mono HB2.out.size); have HX3 : Hid _ := b3.size; have HN3 : Hid _ := nine_below HN1.out b3; obtain ⟨sa, sn, sc, rfl⟩ := ints_slice (own_ints O3.1.2.2.2); clear O3 b3))
    have SN := ss_new HO3.out
    have BV : Below w3.heap.size w3 (w3.alloc (hpb H (.slice (some ⟨g1, 0, none⟩) H.row.length k1) (.slice (some ⟨g2, 0, none⟩) H.roots.length k2) (.slice (some ⟨g3, 0, none⟩) H.mourned.length k3) (.slice sa sn sc))) := (Below.refl _ _).alloc (Nat.le_refl _) _
    have ST := l14Nil_any HRR.out HML.out SN.1 SN.2 (Nat.le_trans HX3.out BV.size)
    have HG : Hid _ := ownH_lt HO3.out
    have HN4 : Hid _ := nine_below HN3.out BV
    have HB4 : Hid _ := HB3.out.trans (BV.mono HB3.out.size)
    have HV4 : Hid _ := BV.size
    clear SN BV HO3 HN3 HN1
    generalize w3.alloc (hpb H (.slice (some ⟨g1, 0, none⟩) H.row.length k1) (.slice (some ⟨g2, 0, none⟩) H.roots.length k2) (.slice (some ⟨g3, 0, none⟩) H.mourned.length k3) (.slice sa sn sc)) = V at *
    have q1 := (HG.out g1 (in_hblk.1 _ (by rw [blk_of]; simp))).1
    have q2 := (HG.out g2 (in_hblk.2.1 _ (by rw [blk_of]; simp))).1
    have q3 := (HG.out g3 (in_hblk.2.2.1 _ (by rw [blk_of]; simp))).1
    have q4 := HX3.out
    have q5 := HX2.out
    have q6 := HsX.out
    have HLE : Hid (∀ k ∈ [w3.heap.size, g1, g2, g3], w.heap.size + 2 ≤ k) := by
      intro k hk
      simp at hk
      omega
    clear q1 q2 q3 q4 q5 q6
    go_upto_region 5 with (go_at_call 30; refine ST.mono ?_; clear ST; rintro e w5 ⟨u, rfl, N5, O5, C5⟩; have HN5 : Hid _ := N5; have HO5 : Hid _ := O5; have HC5 : Hid _ := C5; obtain ⟨ua, un, uc, rfl⟩ := ints_slice (own_ints O5.1.2.2.2); clear N5 O5 C5)
    obtain ⟨⟨z0, z1, z2, z3, z4⟩, ⟨z5, z6, z7, z8⟩, _⟩ := nine_cells HN5.out
    have HN6 : Hid _ := nine_ch HN4.out HC5.out (fun hm => by have := HLE.out _ hm; omega)
    obtain ⟨⟨y0, y1, y2, y3, y4⟩, ⟨y5, y6, y7, y8⟩, yf⟩ := nine_cells HN6.out
    have f0 := yf 0
    have f1 := yf 1
    have f2 := yf 2
    have f3 := yf 3
    have f4 := yf 4
    have f5 := yf 5
    have f6 := yf 6
    have f7 := yf 7
    have f8 := yf 8
    clear yf
    have HB5 : Hid _ := HB4.out.trans (below_ch HC5.out HB4.out.size (fun k hk => by have := HLE.out k hk; omega))
    have HX4 : Hid (w.heap.size + 2 ≤ w2.heap.size) := by show _ ≤ _; have := HX2.out; have := HsX.out; omega
    go_wp2_with fail
    refine bodyPost_ret (res_heap rfl rfl (nine_sets HN6.out _ _ _ _ _ _ _ _ _)) rfl ⟨_, _, _, _, rfl, ?_, nine_belows HB5.out (by omega) _ _ _ _ _ _ _ _ _⟩
    have hx4 := HX4.out
    have H5 := HO5.out
    have on : ∀ {v : Value} {xs : List Int}, rows.Own w5 w2.heap.size v xs → ∀ {W : World}, Ch [w.heap.size + 1] w5 W → rows.Own W w.heap.size v xs := fun {v xs} ho {W} hc => own_base (row_ch ho hc (fun j hj => by have := (blk_lt ho j hj).1; simp; omega)) (by omega)
    exact ⟨⟨on H5.1.1 (nine_other _ _ _ _ _ _ _ _ _), on H5.1.2.1 (nine_other _ _ _ _ _ _ _ _ _), on H5.1.2.2.1 (nine_other _ _ _ _ _ _ _ _ _), on H5.1.2.2.2 (nine_other _ _ _ _ _ _ _ _ _)⟩, H5.2⟩
end Go.Proofs.YtacilbilnbmcbaaGreatDoor.hp
namespace Go.Proofs.YtacilbilnbmcbaaGreatDoor.hp
open Go.RowKit rows heads words walks
set_option maxRecDepth 100000
set_option linter.unusedVariables false
set_option linter.unusedSimpArgs false

/-- What the package's variables hold. -/
structure Glob (w : World) (pW pN : Addr) : Prop where
  wrong : w.cell? ⟨0, 0, none⟩ = some (.iface 245 (.pointer (some pW)))
  ety : w.cell? ⟨1, 0, none⟩ = some (.iface 130 (.agg #[.pointer (some ⟨3, 43, none⟩)]))
  kept : w.cell? ⟨2, 0, none⟩ = some (.iface 245 (.pointer (some pN)))
theorem Glob.below {w V : World} {pW pN : Addr} (h : Glob w pW pN) (hb : Below w.heap.size w V) : Glob V pW pN :=
  ⟨(hb.cell (p := ⟨0, 0, none⟩) (World.block_lt_of_cell? _ _ h.wrong)).trans h.wrong, (hb.cell (p := ⟨1, 0, none⟩) (World.block_lt_of_cell? _ _ h.ety)).trans h.ety, (hb.cell (p := ⟨2, 0, none⟩) (World.block_lt_of_cell? _ _ h.kept)).trans h.kept⟩
abbrev refV (n : Int) (p : Addr) : Value := .iface 81 (.agg #[.int .i64 n, .iface 245 (.pointer (some p))])
def EntR (w : World) (a1 a2 a3 a4 : Option Addr) (c1 c2 c3 c4 : Nat) (pW : Addr) (H : Hp) (e : Ending) (w' : World) : Prop := (heapOk H = false → e = .returned (.tuple #[hov0, refV (-1) pW])) ∧ (heapOk H = true → ∃ a5 c5, e = .returned (.tuple #[hov H (.slice a1 H.row.length c1) (.slice a2 H.roots.length c2) (.slice a3 H.mourned.length c3) (.slice a4 H.seen.length c4) (2 * H.half) (.slice a5 (objsP a1 H).length c5), .nilIface]) ∧ OwnP w' w.heap.size (.slice a5 (objsP a1 H).length c5) (objsP a1 H)) ∧ Below w.heap.size w w'
theorem res_hoE {fn : Func} {tmps : Array Value} {X : World} {j i b : Nat} {H : Hp} {a1 a2 a3 a4 a5 : Option Addr} {n1 c1 n2 c2 n3 c3 n4 c4 n5 c5 : Nat} {up : Int} {bb : Value} (hbb : bb = .nilIface ∨ ∃ n p, bb = refV n p) (hf : fn.results = #[.cell j 41, .tmp i]) (h2 : tmps[j]? = some (.pointer (some ⟨b, 0, none⟩))) (hi : tmps[i]? = some bb) (hX : X.heap[b]? = some (hob H (.slice a1 n1 c1) (.slice a2 n2 c2) (.slice a3 n3 c3) (.slice a4 n4 c4) up (.slice a5 n5 c5))) :
    (results fn tmps).run Tryz.prog X = .ok (.tuple #[hov H (.slice a1 n1 c1) (.slice a2 n2 c2) (.slice a3 n3 c3) (.slice a4 n4 c4) up (.slice a5 n5 c5), bb]) X := by
  obtain ⟨⟨k0, k1, k2, k3, k4, k5, k6, k7, k8, k9, k10⟩, _⟩ := hob_cells hX
  clear hX
  rcases hbb with rfl | ⟨n, p, rfl⟩
  · simp [results, hf, h2, hi, go_sem, k0, k1, k2, k3, k4, k5, k6, k7, k8, k9, k10]
  · simp [results, hf, h2, hi, go_sem, k0, k1, k2, k3, k4, k5, k6, k7, k8, k9, k10]
theorem row_baseN {w : World} {base base' size n : Nat} {t : TypeId} {v : Value} {xs : List Value} (h : w.ownsRow base t size v n xs) (hb : base' ≤ base) : w.ownsRow base' t size v n xs := by
  obtain ⟨h1, h2 | ⟨g, c, cur, e, hg, r⟩⟩ := h
  · exact ⟨h1, .inl h2⟩
  · exact ⟨h1, .inr ⟨g, c, cur, e, Nat.le_trans hb hg, r⟩⟩
theorem hob_setD {W : World} {b : Nat} {H0 : Hp} {r0 o0 m0 q0 : Value} {up0 : Int} {v0 : Value} (h : W.heap[b]? = some (hob H0 r0 o0 m0 q0 up0 v0)) (H : Hp) (vr vo vm vs : Value) (up : Int) (v : Value) : (hoSet W b H vr vo vm vs up v).drew.heap[b]? = some (hob H vr vo vm vs up v) := ((Below.refl _ (hoSet W b H vr vo vm vs up v)).drew.block b (lt_of_block (hob_set h H vr vo vm vs up v))).trans (hob_set h H vr vo vm vs up v)
set_option maxHeartbeats 16000000 in
theorem entered_any {w : World} {a1 a2 a3 a4 : Option Addr} {c1 c2 c3 c4 : Nat} {H : Hp} (h : HpAt w (.slice a1 H.row.length c1) (.slice a2 H.roots.length c2) (.slice a3 H.mourned.length c3) (.slice a4 H.seen.length c4) H) (hs : hpSize H ≤ 1048576) (hI : HpI H) {pW pN : Addr} (hG : Glob w pW pN) :
    Calls Tryz.prog 19 #[hpv H (.slice a1 H.row.length c1) (.slice a2 H.roots.length c2) (.slice a3 H.mourned.length c3) (.slice a4 H.seen.length c4)] w (EntR w a1 a2 a3 a4 c1 c2 c3 c4 pW H) := by
  have B0 : Below w.heap.size w (w.alloc (hpb H (.slice a1 H.row.length c1) (.slice a2 H.roots.length c2) (.slice a3 H.mourned.length c3) (.slice a4 H.seen.length c4))) := (Below.refl _ _).alloc (Nat.le_refl _) _
  have B1 := B0.alloc B0.size (hob hz s0 s0 s0 s0 0 s0)
  have HALL : Hid (∃ X, X = (w.alloc (hpb H (.slice a1 H.row.length c1) (.slice a2 H.roots.length c2) (.slice a3 H.mourned.length c3) (.slice a4 H.seen.length c4))).alloc (hob hz s0 s0 s0 s0 0 s0) ∧ Nine X w.heap.size 26 (.int .i64 H.half) (.int .i64 H.old) (.slice a1 H.row.length c1) (.int .i64 H.side) (.int .i64 H.top) (.slice a2 H.roots.length c2) (.slice a3 H.mourned.length c3) (.slice a4 H.seen.length c4) (.int .i64 H.seed) ∧ X.heap[w.heap.size + 1]? = some (hob hz s0 s0 s0 s0 0 s0) ∧ Below w.heap.size w X ∧ HpAt X (.slice a1 H.row.length c1) (.slice a2 H.roots.length c2) (.slice a3 H.mourned.length c3) (.slice a4 H.seen.length c4) H) :=
    ⟨_, rfl, heap_alloc2_old _ _ _, heap_alloc2_new _ _ _, B1, hpAt_below h B1⟩
  have HG : Hid _ := hG
  have HS : Hid _ := hs
  have HII : Hid _ := hI
  clear B0 B1 h hs hI hG
  go_enter Tryz.func19, Tryz.ntmps19
  go_upto_region 1 with fail
  obtain ⟨X, hX, T0, T1, BX, AX⟩ := HALL.out
  rw [← hX]
  clear hX HALL
  obtain ⟨⟨z0, z1, z2, z3, z4⟩, ⟨z5, z6, z7, z8⟩, _⟩ := nine_cells T0
  have OX := opened_any AX HS.out HII.out
  unfold OpenR at OX
  have HT1 : Hid _ := T1
  have HBX : Hid _ := BX
  clear T0 T1 BX AX
  cases hh : heapOk H
  · have R0 := OX.mono (fun e w' (g : _ ∧ _ ∧ _) => (⟨g.1 hh, g.2.2⟩ : e = .returned (.tuple #[hov0, .bool false]) ∧ Below _ _ w'))
    have HHH : Hid _ := hh
    clear OX hh
    go_upto_region 2 with (go_at_call 43; refine R0.mono ?_; clear R0 z0 z1 z2 z3 z4 z5 z6 z7 z8; rintro e w1 ⟨rfl, b1⟩; have HB1 : Hid _ := b1; clear b1)
    have HB2 : Hid _ := HB1.out.alloc HB1.out.size (hob hz s0 s0 s0 s0 0 s0)
    generalize w1.alloc (hob hz s0 s0 s0 s0 0 s0) = Y at *
    have HBY : Hid _ := HBX.out.trans (HB2.out.mono HBX.out.size)
    have q1 := (HB2.out.block _ (lt_of_block HT1.out)).trans HT1.out
    have HQ1 : Hid _ := q1
    obtain ⟨⟨r0, r1, r2, r3, r4, r5, r6, r7, r8, r9, r10⟩, f0, f1, f2, f3, f4, f5, f6, f7, f8, f9, f10⟩ := hob_cells q1
    have gw := (HG.out.below HBY.out).wrong
    have hgl : 0 < w.heap.size := World.block_lt_of_cell? _ _ HG.out.wrong
    have hne : ¬ 0 = w.heap.size + 1 := by omega
    clear q1 HB1 HB2 HBX HT1
    go_upto_region 3 with fail
    go_region_law (fail)
    all_goals go_wp2_with fail
    all_goals exact bodyPost_ret (res_hoE (.inr ⟨_, _, rfl⟩) rfl rfl rfl (hob_setD HQ1.out hz s0 s0 s0 s0 0 s0)) rfl ⟨fun _ => rfl, fun e => absurd (HHH.out.symm.trans e) (by decide), (hob_below HBY.out (Nat.le_succ _) hz s0 s0 s0 s0 0 s0).drew⟩
  · have R0 := OX.mono (fun e w' (g : _ ∧ _ ∧ _) => (⟨g.2.1 hh, g.2.2⟩ : (∃ a5 c5, e = .returned (.tuple #[hov H (.slice a1 H.row.length c1) (.slice a2 H.roots.length c2) (.slice a3 H.mourned.length c3) (.slice a4 H.seen.length c4) (2 * H.half) (.slice a5 (objsP a1 H).length c5), .bool true]) ∧ OwnP w' _ (.slice a5 (objsP a1 H).length c5) (objsP a1 H)) ∧ Below _ _ w'))
    have HHH : Hid _ := hh
    clear OX hh
    go_upto_region 2 with (go_at_call 43; refine R0.mono ?_; clear R0 z0 z1 z2 z3 z4 z5 z6 z7 z8; rintro e w1 ⟨⟨a5, c5, rfl, O1⟩, b1⟩; have HB1 : Hid _ := b1; have HO1 : Hid _ := O1; clear b1 O1)
    have B2 : Below w1.heap.size w1 (w1.alloc (hob H (.slice a1 H.row.length c1) (.slice a2 H.roots.length c2) (.slice a3 H.mourned.length c3) (.slice a4 H.seen.length c4) (2 * H.half) (.slice a5 (objsP a1 H).length c5))) := (Below.refl _ _).alloc (Nat.le_refl _) _
    have Q2 := heap_alloc_new w1 (hob H (.slice a1 H.row.length c1) (.slice a2 H.roots.length c2) (.slice a3 H.mourned.length c3) (.slice a4 H.seen.length c4) (2 * H.half) (.slice a5 (objsP a1 H).length c5))
    have HB2 : Hid _ := HB1.out.trans (B2.mono HB1.out.size)
    have HOP : Hid _ := ownP_below HO1.out B2
    have hX1 := lt_of_block HT1.out
    obtain ⟨⟨m0, m1, m2, m3, m4, m5, m6, m7, m8, m9, m10⟩, _⟩ := hob_cells Q2
    clear B2 Q2 HO1
    generalize w1.alloc (hob H (.slice a1 H.row.length c1) (.slice a2 H.roots.length c2) (.slice a3 H.mourned.length c3) (.slice a4 H.seen.length c4) (2 * H.half) (.slice a5 (objsP a1 H).length c5)) = Y at *
    have HBY : Hid _ := HBX.out.trans (HB2.out.mono HBX.out.size)
    have q1 := (HB2.out.block _ (lt_of_block HT1.out)).trans HT1.out
    have HQ1 : Hid _ := q1
    obtain ⟨⟨r0, r1, r2, r3, r4, r5, r6, r7, r8, r9, r10⟩, f0, f1, f2, f3, f4, f5, f6, f7, f8, f9, f10⟩ := hob_cells q1
    clear q1 HB1 HB2 HT1
    go_wp2_with fail
    refine bodyPost_ret (res_hoE (.inl rfl) rfl rfl rfl (hob_set HQ1.out H (.slice a1 H.row.length c1) (.slice a2 H.roots.length c2) (.slice a3 H.mourned.length c3) (.slice a4 H.seen.length c4) (2 * H.half) (.slice a5 (objsP a1 H).length c5))) rfl ⟨fun e => absurd (HHH.out.symm.trans e) (by decide), fun _ => ⟨a5, c5, rfl, ?_⟩, hob_below HBY.out (by omega) H (.slice a1 H.row.length c1) (.slice a2 H.roots.length c2) (.slice a3 H.mourned.length c3) (.slice a4 H.seen.length c4) (2 * H.half) (.slice a5 (objsP a1 H).length c5)⟩
    have hsz := HBX.out.size
    exact row_baseN (row_ch HOP.out (hob_ch _ _ _ _ _ _ _ _ _) (fun k hk hc => by
      have := (blk_lt HOP.out k hk).1
      have e : k = w.heap.size + 1 := by simpa using hc
      omega)) hsz
end Go.Proofs.YtacilbilnbmcbaaGreatDoor.hp
