/-
  Chapter 13 as the program has it: what a house marks.
  Made from the template MarkI5.
-/
import Derived.Test.YtacilbilnbmcbaaGreatDoorM27
import Derived.Test.YtacilbilnbmcbaaGreatDoorM24
namespace Go.Proofs.YtacilbilnbmcbaaGreatDoor.hp
open Go.RowKit rows heads words walks Go.Maps
set_option maxRecDepth 100000
set_option linter.unusedVariables false
set_option linter.unusedSimpArgs false

theorem res_setM {fn : Func} {tmps : Array Value} {X : World} {j b : Nat} {a : Option Addr} {n c : Nat} (hf : fn.results = #[.cell j 69]) (h2 : tmps[j]? = some (.pointer (some ⟨b, 0, none⟩))) (hX : X.heap[b]? = some (stb (.slice a n c))) :
    (results fn tmps).run Tryz.prog X = .ok (.agg #[.slice a n c]) X := by
  obtain ⟨k0, _⟩ := stb_cells hX
  clear hX
  simp [results, hf, h2, go_sem, k0]
abbrev mm0 : Mm := ⟨nilV, 0, .map [], fun _ => nilV, [], fun _ => []⟩
theorem blk_nilV : blk nilV = [] := by simp [blk, Value.ownBlock]
theorem mm0_start (X : World) (up : Int) (v : Value) (ok : Int → Prop) : MS X (X.heap.size + 1) X.heap.size (X.heap.size + 2) up v ok mm0 0 ((X.alloc (.map #[] 0)).alloc (mkb up v nilV X.heap.size)) := by
  have B1 : Below X.heap.size X (X.alloc (.map #[] 0)) := (Below.refl _ _).alloc (Nat.le_refl _) _
  have B2 : Below X.heap.size X ((X.alloc (.map #[] 0)).alloc (mkb up v nilV X.heap.size)) := B1.alloc B1.size _
  have q := heap_alloc_new (X.alloc (.map #[] 0)) (mkb up v nilV X.heap.size)
  have e : (X.alloc (.map #[] 0)).heap.size = X.heap.size + 1 := by simp
  rw [e] at q
  exact { low := B2, c0 := by omega, c1 := by omega, m0 := Nat.le_refl _, m1 := by omega, cm := by omega, bz := by simp, blk' := q, map := (World.ownsMap_made X Tryz.prog 2 heldV).alloc _, tidy := Maps.tidy_empty, look := fun a => rfl,
          mown := ⟨rfl, .inl ⟨rfl, rfl⟩⟩, wown := fun a => ⟨rfl, .inl ⟨rfl, rfl⟩⟩, ap := fun a b _ k hk => (by rw [blk_nilV] at hk; cases hk), am := fun a k hk => (by rw [blk_nilV] at hk; cases hk), wok := fun a x hx => (by cases hx), nl := Nat.le_refl _, wl := fun a => Nat.le_refl _, ml := Nat.zero_le _ }
set_option maxHeartbeats 16000000 in
theorem marks_any {w : World} {b off c1 c2 c3 c4 c5 : Nat} {a2 a3 a4 a5 : Option Addr} {H : Hp} {ps : List Int} {ds : List Pd} {sl : Pd → List Int} (h : HpAt w (.slice (some ⟨b, off, none⟩) H.row.length c1) (.slice a2 H.roots.length c2) (.slice a3 H.mourned.length c3) (.slice a4 H.seen.length c4) H) (hv : RoomsAt w (.slice a5 ds.length c5) ds sl) (hF : FolP H ps ds sl) (hI : HpI H) (hl : H.row.length ≤ 1000) (hl2 : H.roots.length ≤ 1000) (hl3 : H.mourned.length ≤ 1000) (hD : RowP b off H ds) {L : List Int} (hL : IsMarks H L) (up : Int) :
    Calls Tryz.prog 31 #[hov H (.slice (some ⟨b, off, none⟩) H.row.length c1) (.slice a2 H.roots.length c2) (.slice a3 H.mourned.length c3) (.slice a4 H.seen.length c4) up (.slice a5 ds.length c5)] w fun e w' => ∃ u, e = .returned (.agg #[u]) ∧ rows.Own w' w.heap.size u L ∧ Below w.heap.size w w' := by
  have hmm := @run_makeMap Tryz.prog
  have B0 : Below w.heap.size w (w.alloc (hob H (.slice (some ⟨b, off, none⟩) H.row.length c1) (.slice a2 H.roots.length c2) (.slice a3 H.mourned.length c3) (.slice a4 H.seen.length c4) up (.slice a5 ds.length c5))) := (Below.refl _ _).alloc (Nat.le_refl _) _
  have B1 := B0.alloc B0.size (stb nilV)
  have HALL : Hid (∃ X, X = (w.alloc (hob H (.slice (some ⟨b, off, none⟩) H.row.length c1) (.slice a2 H.roots.length c2) (.slice a3 H.mourned.length c3) (.slice a4 H.seen.length c4) up (.slice a5 ds.length c5))).alloc (stb nilV) ∧ X.heap[w.heap.size]? = some (hob H (.slice (some ⟨b, off, none⟩) H.row.length c1) (.slice a2 H.roots.length c2) (.slice a3 H.mourned.length c3) (.slice a4 H.seen.length c4) up (.slice a5 ds.length c5)) ∧ X.heap[w.heap.size + 1]? = some (stb nilV) ∧ Below w.heap.size w X ∧ X.heap.size = w.heap.size + 2) :=
    ⟨_, rfl, heap_alloc2_old _ _ _, heap_alloc2_new _ _ _, B1, by simp⟩
  have HHP : Hid _ := h
  have HRM : Hid _ := hv
  have HMA : Hid (∀ X, Below w.heap.size w X → ∀ N, MarkAll X (X.heap.size + 1) X.heap.size (X.heap.size + 2) up (.slice a5 ds.length c5) H ps N) := fun X hX N => mark_all (hv.below hX) hF hI.2.1 (intsAt_below h.1 hX) hl hD N
  have HOR : Hid (∀ x ∈ H.roots, okW H ps x) := fun x hx => ⟨hF.rt.root_in (List.mem_append_left _ hx), hI.2.2.1 x hx⟩
  have HOM : Hid (∀ x ∈ H.mourned, okW H ps x) := fun x hx => ⟨hF.rt.root_in (List.mem_append_right _ hx), hI.2.2.2.1 x hx⟩
  have HL : Hid _ := hL
  clear B0 B1 h hv hF hI hD hL hl
  go_enter Tryz.func31, Tryz.ntmps31
  go_upto_region 1 with fail
  obtain ⟨X, hX, q0, q1, BX, sX⟩ := HALL.out
  rw [← hX]
  clear hX HALL
  have HBX : Hid _ := BX
  have HQ0 : Hid _ := q0
  have HQ1 : Hid _ := q1
  have HSX : Hid _ := sX
  obtain ⟨⟨m0, m1, m2, m3, m4, m5, m6, m7, m8, m9, m10⟩, _⟩ := hob_cells q0
  have MS0 := mm0_start X up (.slice a5 ds.length c5) (okW H ps)
  have HMS : Hid _ := MS0
  have HCE : Hid (∀ V, Below X.heap.size X V → V.cell? ⟨w.heap.size, 5, none⟩ = some (.slice a2 H.roots.length c2) ∧ V.cell? ⟨w.heap.size, 6, none⟩ = some (.slice a3 H.mourned.length c3)) := fun V hV => by
    obtain ⟨⟨_, _, _, _, _, k5, k6, _⟩, _⟩ := hob_cells ((hV.block _ (lt_of_block HQ0.out)).trans HQ0.out)
    exact ⟨k5, k6⟩
  have t5 := (HCE.out _ MS0.low).1
  have HLO : Hid (∀ V s' m', MS X (X.heap.size + 1) X.heap.size (X.heap.size + 2) up (.slice a5 ds.length c5) (okW H ps) m' s' V → ∀ W', ChP (m'.fs (X.heap.size + 1) X.heap.size) V W' → Below w.heap.size w W') := fun V s' m' h W' hW' => HBX.out.trans ((h.low.trans (below_chP hW' h.low.size (fun k hk => (h.fsLow hk).1))).mono HBX.out.size)
  have MI0 : MI H mm0.M mm0.Wt (fun x => x ∈ H.mourned ∨ x ∈ H.roots) (fun _ => False) := (mI_start H).mono (fun x hx => .inl ((List.mem_append.1 hx).elim .inr .inl))
  have CM1 := HMA.out X HBX.out 600 _ mm0 0 (fun x => x ∈ H.mourned) (fun _ => False) (.slice a2 H.roots.length c2) H.roots (by omega) MS0 MI0 HOR.out (fun x hx a ha => (mk_closed H).1 x (List.mem_append_left _ hx) a ha) (by omega) (fun W' hW' => intsAt_below HHP.out.2.1 (HLO.out _ _ _ MS0 W' hW'))
  have HC2 : Hid (∀ w1 m', MR X (X.heap.size + 1) X.heap.size (X.heap.size + 2) up (.slice a5 ds.length c5) (okW H ps) 0 mm0 ((X.alloc (.map #[] 0)).alloc (mkb up (.slice a5 ds.length c5) nilV X.heap.size)) m' w1 → MI H m'.M m'.Wt (fun x => x ∈ H.mourned) (fun _ => False) → Calls Tryz.prog 58 #[.pointer (some ⟨X.heap.size + 1, 0, none⟩), .slice a3 H.mourned.length c3] w1 fun e w' => e = .returned (.tuple #[]) ∧ ∃ u, w'.cell? ⟨X.heap.size + 1, 2, none⟩ = some u ∧ rows.Own w' w.heap.size u L ∧ (w.heap.size + 1) ∉ blk u ∧ Below X.heap.size X w') := fun w1 m' mr mi => by
    refine (HMA.out X HBX.out (600 - m'.M.length) w1 m' 0 (fun _ => False) (fun _ => False) (.slice a3 H.mourned.length c3) H.mourned (Nat.le_refl _) mr.ms (mi.mono (fun x hx => .inl (.inr hx))) HOM.out (fun x hx a ha => (mk_closed H).1 x (List.mem_append_right _ hx) a ha) (by omega) (fun W' hW' => intsAt_below HHP.out.2.2.1 (HLO.out _ _ _ mr.ms W' hW'))).mono ?_
    rintro e w' ⟨rfl, m2, mr2, mi2⟩
    have eL : m2.M = L := isMarks_eq mi2.fin HL.out
    have hsx := HSX.out
    refine ⟨rfl, m2.vm, (mkb_cells mr2.ms.blk').1.2.2.1, by rw [← eL]; exact own_base mr2.ms.mown (by omega), fun hc => ?_, mr2.ms.low⟩
    have := blk_lt mr2.ms.mown _ hc
    omega
  clear q0 q1 BX sX MS0 MI0 HMA HOR HOM HLO HMS
  go_upto_region 2 with fail
  generalize hYY : (X.alloc (.map #[] 0)).alloc (mkb up (.slice a5 ds.length c5) nilV X.heap.size) = Y at *
  clear hYY m0 m1 m2 m3 m4 m5 m6 m7 m8 m9 m10
  go_wp2_with fail
  refine CM1.mono ?_
  clear CM1 t5
  rintro e w1 ⟨rfl, m', mr, mi⟩
  have CM2 := HC2.out w1 m' mr mi
  have t6 := (HCE.out w1 mr.ms.low).2
  clear HC2 mr mi HCE
  go_wp2_with fail
  refine CM2.mono ?_
  clear CM2 t6
  rintro e w2 ⟨rfl, u, hu, hO, hnb, hb⟩
  obtain ⟨ua, un, uc, rfl⟩ := ints_slice (own_ints hO)
  have q2 := (hb.block _ (lt_of_block HQ1.out)).trans HQ1.out
  obtain ⟨y0, f0⟩ := stb_cells q2
  have HQ2 : Hid _ := q2
  have HO : Hid _ := hO
  have HNB : Hid _ := hnb
  have HB : Hid _ := HBX.out.trans (hb.mono HBX.out.size)
  clear q2 hO hnb hb
  go_wp2_with fail
  refine bodyPost_ret (res_setM rfl rfl (stb_set HQ2.out _)) rfl ⟨_, rfl, ?_, ?_⟩
  · exact row_ch (S := [w.heap.size + 1]) HO.out (one_ch _ _ _ _) (fun k hk => by simp; rintro rfl; exact HNB.out hk)
  · exact HB.out.setCell (p := ⟨w.heap.size + 1, 0, none⟩) (Nat.le_succ _) _
set_option maxHeartbeats 4000000 in
theorem markNone_any (C : Nat) (W : World) : Calls Tryz.prog 58 #[.pointer (some ⟨C, 0, none⟩), .slice none 0 0] W fun e w' => e = .returned (.tuple #[]) ∧ w' = W := by
  go_enter Tryz.func58, Tryz.ntmps58
  go_wp2_with fail
  go_loopw [5, 6, 7, 10] (fun _ _ _ p wr => p = .int .i64 0 ∧ wr = W) (fun _ _ _ p _ => 0)
  case atStart => exact ⟨rfl, rfl⟩
  case round =>
    obtain ⟨rfl, rfl⟩ := hrel
    go_wp2
    exact bodyPost_end (results_none rfl _ _ _) rfl ⟨rfl, rfl⟩
set_option maxHeartbeats 16000000 in
theorem marksNone_any (w : World) : Calls Tryz.prog 31 #[hov0] w fun e w' => e = .returned (.agg #[.slice none 0 0]) ∧ Below w.heap.size w w' := by
  have hmm := @run_makeMap Tryz.prog
  have B0 : Below w.heap.size w (w.alloc (hob hz s0 s0 s0 s0 0 s0)) := (Below.refl _ _).alloc (Nat.le_refl _) _
  have B1 := B0.alloc B0.size (stb nilV)
  have HALL : Hid (∃ X, X = (w.alloc (hob hz s0 s0 s0 s0 0 s0)).alloc (stb nilV) ∧ X.heap[w.heap.size]? = some (hob hz s0 s0 s0 s0 0 s0) ∧ X.heap[w.heap.size + 1]? = some (stb nilV) ∧ Below w.heap.size w X) :=
    ⟨_, rfl, heap_alloc2_old _ _ _, heap_alloc2_new _ _ _, B1⟩
  clear B0 B1
  go_enter Tryz.func31, Tryz.ntmps31
  go_upto_region 1 with fail
  obtain ⟨X, hX, q0, q1, BX⟩ := HALL.out
  rw [← hX]
  clear hX HALL
  have HBX : Hid _ := BX
  have HQ0 : Hid _ := q0
  have HQ1 : Hid _ := q1
  obtain ⟨⟨m0, m1, m2, m3, m4, m5, m6, m7, m8, m9, m10⟩, _⟩ := hob_cells q0
  have MS0 := mm0_start X 0 s0 (fun _ => True)
  obtain ⟨⟨k0, k1, k2, k3⟩, _⟩ := mkb_cells MS0.blk'
  obtain ⟨⟨_, _, _, _, _, k5, k6, _⟩, _⟩ := hob_cells ((MS0.low.block _ (lt_of_block HQ0.out)).trans HQ0.out)
  have q2 := (MS0.low.block _ (lt_of_block HQ1.out)).trans HQ1.out
  obtain ⟨y0, f0⟩ := stb_cells q2
  have HQ2 : Hid _ := q2
  have HB : Hid _ := HBX.out.trans (MS0.low.mono HBX.out.size)
  have CM := markNone_any (X.heap.size + 1) ((X.alloc (.map #[] 0)).alloc (mkb 0 s0 nilV X.heap.size))
  clear q0 q1 q2 BX MS0
  go_upto_region 2 with fail
  generalize hYY : (X.alloc (.map #[] 0)).alloc (mkb 0 s0 nilV X.heap.size) = Y at *
  clear hYY m0 m1 m2 m3 m4 m5 m6 m7 m8 m9 m10
  go_wp2_with (go_at_call 58; refine CM.mono ?_; rintro e w1 ⟨rfl, hw1⟩; rw [hw1]; clear hw1 w1)
  refine bodyPost_ret (res_setM rfl rfl (stb_set HQ2.out _)) rfl ⟨rfl, HB.out.setCell (p := ⟨w.heap.size + 1, 0, none⟩) (Nat.le_succ _) _⟩
end Go.Proofs.YtacilbilnbmcbaaGreatDoor.hp
