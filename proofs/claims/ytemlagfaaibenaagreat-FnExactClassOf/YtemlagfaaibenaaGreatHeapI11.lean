/-
  Chapter 9 as the program has it: whether the slots of all chunks lead nowhere or to one.
  Made from the template HeapI11.
-/
import Derived.Test.YtemlagfaaibenaaGreatHeapI10
namespace Go.Proofs.YtemlagfaaibenaaGreat.hp
open Go.RowKit rows heads words walks
set_option maxRecDepth 100000
set_option linter.unusedVariables false
set_option linter.unusedSimpArgs false

/-- The slots of each chunk, as the program gives them. -/
structure SlotsP (w : World) (ds : List Pd) (sl : Pd → List Int) : Prop where
  call : ∀ V, Below w.heap.size w V → ∀ i, i < ds.length → Calls Tryz.prog 63 #[cv (ds.getD i pdD).s (ds.getD i pdD).f (ds.getD i pdD).c (ds.getD i pdD).h (ds.getD i pdD).p (ds.getD i pdD).m (ds.getD i pdD).u] V fun e w' => ∃ ua un uc, e = .returned (.slice ua un uc) ∧ IntsAt w' (.slice ua un uc) (sl (ds.getD i pdD)) ∧ Below V.heap.size V w'
  len : ∀ i, i < ds.length → (sl (ds.getD i pdD)).length ≤ 1048576
  num : ∀ i, i < ds.length → AllI (sl (ds.getD i pdD))
def holdS (ds : List Pd) (sl : Pd → List Int) : Bool := ds.all (fun d => holdL ds (sl d))
theorem holdS_no {ds : List Pd} {sl : Pd → List Int} {k : Nat} (hk : k < ds.length) (h : holdL ds (sl (ds.getD k pdD)) = false) : holdS ds sl = false := by
  unfold holdS
  rw [List.all_eq_false]
  exact ⟨_, mem_getDP hk, by rw [h]; decide⟩
theorem holdS_yes {ds : List Pd} {sl : Pd → List Int} (h : ∀ m, m < ds.length → holdL ds (sl (ds.getD m pdD)) = true) : holdS ds sl = true := by
  unfold holdS
  rw [List.all_eq_true]
  intro x hx
  obtain ⟨m, hm, rfl⟩ := List.getElem_of_mem hx
  have := h m hm
  rwa [List.getD_eq_getElem?_getD, List.getElem?_eq_getElem hm] at this
set_option maxHeartbeats 8000000 in
theorem holdsSlots_any {w : World} {up : Int} {v : Value} {ds : List Pd} {sl : Pd → List Int} (h : PdsAt w v ds) (hs : SlicesP ds) (hr : RiseP ds) (hl : ds.length ≤ 1048576) (hS : SlotsP w ds sl) :
    Calls Tryz.prog 94 #[rmv up v] w fun e w' => e = .returned (.bool (holdS ds sl)) ∧ Below w.heap.size w w' := by
  obtain ⟨a, cap, rfl⟩ := pds_slice h
  have HP : Hid _ := h
  have HSL : Hid _ := hs
  obtain ⟨R, hR⟩ : ∃ R, holdS ds sl = R := ⟨_, rfl⟩
  have HR : Hid _ := hR
  have B0 : Below w.heap.size w (w.alloc (rmb up (.slice a ds.length cap))) := (Below.refl _ _).alloc (Nat.le_refl _) _
  have HALL : Hid (∀ V, Below (w.alloc (rmb up (.slice a ds.length cap))).heap.size (w.alloc (rmb up (.slice a ds.length cap))) V → (V.cell? ⟨w.heap.size, 0, none⟩ = some (.int .i64 up) ∧ V.cell? ⟨w.heap.size, 1, none⟩ = some (.slice a ds.length cap)) ∧ Below w.heap.size w V) := by
    intro V hV
    have q0 : V.heap[w.heap.size]? = some (rmb up (.slice a ds.length cap)) := (hV.block _ (by simp)).trans (heap_alloc_new w _)
    exact ⟨(rmb_cells q0).1, B0.trans (hV.mono B0.size)⟩
  have HCL : Hid (∀ V, Below w.heap.size w V → ∀ (u : Value) (xs : List Int), IntsAt V u xs → xs.length ≤ 1048576 → AllI xs → Calls Tryz.prog 118 #[rmv up (.slice a ds.length cap), u] V fun e w' => e = .returned (.bool (holdL ds xs)) ∧ Below V.heap.size V w') := fun V hV u xs h1 h2 h3 => holdsAll_any (pdsAt_below HP.out hV) hs hr hl h1 h2 h3
  have HSP : Hid _ := hS
  rw [hR]
  clear h hs hr B0 hR hS
  go_enter Tryz.func94, Tryz.ntmps94
  go_upto_region 1 with fail
  generalize w.alloc (rmb up (.slice a ds.length cap)) = X at *
  obtain ⟨⟨z0, z1⟩, _⟩ := HALL.out X (Below.refl _ _)
  go_wp2_with fail
  clear z0 z1
  go_loopw [4, 8] (fun _ q wr => ∃ k : Nat, k ≤ ds.length ∧ q = .int .i64 (k : Int) ∧ (∀ m, m < k → holdL ds (sl (ds.getD m pdD)) = true) ∧ Below X.heap.size X wr) (fun _ q _ => ds.length - (intOf q).toNat)
  case atStart => exact ⟨0, Nat.zero_le _, rfl, fun m hm => by omega, Below.refl _ _⟩
  case round =>
    obtain ⟨k, hk, rfl, hall, hB⟩ := hrel
    have HB : Hid _ := hB
    obtain ⟨_, bw⟩ := HALL.out wr hB
    have HBW : Hid _ := bw
    by_cases hlt : k < ds.length
    · obtain ⟨b, off, ea, hbl, k0, k1, k2, k3, k4, k5, k6, k7⟩ := pds_cell (pdsAt_below HP.out bw) hlt
      subst ea
      obtain ⟨sa, sn, sc, hsv⟩ := HSL.out _ (mem_getDP hlt)
      have hlt' : (k : Int) < (ds.length : Int) := by omega
      have HAL : Hid _ := hall
      have SC := fun V hV => HSP.out.call V hV k hlt
      have sl1 := HSP.out.len k hlt
      have sl2 := HSP.out.num k hlt
      obtain ⟨d, hd⟩ : ∃ d, ds.getD k pdD = d := ⟨_, rfl⟩
      rw [hd] at k0 k1 k2 k3 k4 k5 k6 k7 hsv sl1 sl2
      simp only [hd] at SC
      obtain ⟨xs, hxs⟩ : ∃ xs, sl d = xs := ⟨_, rfl⟩
      rw [hxs] at sl1 sl2
      simp only [hxs] at SC
      obtain ⟨P, hPP⟩ : ∃ P, holdL ds xs = P := ⟨_, rfl⟩
      have HF : Hid (P = false → R = false) := fun e => by rw [← HR.out]; exact holdS_no hlt (by rw [hd, hxs, hPP]; exact e)
      have HV : Hid (P = true → ∀ m, m < k + 1 → holdL ds (sl (ds.getD m pdD)) = true) := fun e m hm => by
        by_cases e' : m = k
        · rw [e', hd, hxs, hPP]; exact e
        · exact HAL.out m (by omega)
      have HC2 : Hid (∀ V, Below w.heap.size w V → ∀ (u : Value), IntsAt V u xs → Calls Tryz.prog 118 #[rmv up (.slice (some ⟨b, off, none⟩) ds.length cap), u] V fun e w' => e = .returned (.bool P) ∧ Below V.heap.size V w') := fun V hV u h1 => by
        have := HCL.out V hV u xs h1 sl1 sl2
        rwa [hPP] at this
      have HSC : Hid _ := SC
      clear SC HCL hd hxs hPP hall bw hB sl1 sl2
      obtain ⟨ds', df, dc, dh, dp, dm, du, dl⟩ := d
      simp only at k0 k1 k2 k3 k4 k5 k6 k7 hsv HSC
      subst hsv
      go_upto_region 4 with fail
      have BY : Below wr.heap.size wr (wr.alloc (pdb ⟨ds', df, dc, dh, dp, dm, .slice sa sn sc, dl⟩)) := (Below.refl _ _).alloc (Nat.le_refl _) _
      have HBY : Hid (Below X.heap.size X (wr.alloc (pdb ⟨ds', df, dc, dh, dp, dm, .slice sa sn sc, dl⟩))) := HB.out.trans (BY.mono HB.out.size)
      obtain ⟨⟨p0, p1, p2, p3, p4, p5, p6, p7⟩, _⟩ := pdb_cells (heap_alloc_new wr (pdb ⟨ds', df, dc, dh, dp, dm, .slice sa sn sc, dl⟩))
      simp only at p0 p1 p2 p3 p4 p5 p6 p7
      clear BY k0 k1 k2 k3 k4 k5 k6 k7
      generalize hY : wr.alloc (pdb ⟨ds', df, dc, dh, dp, dm, .slice sa sn sc, dl⟩) = Y at *
      clear hY
      obtain ⟨⟨z0, z1⟩, _⟩ := HALL.out Y HBY.out
      have HG : Hid (∀ (V w' : World), Below V.heap.size V w' → Below Y.heap.size Y V → (w'.cell? ⟨w.heap.size, 0, none⟩ = some (.int .i64 up) ∧ w'.cell? ⟨w.heap.size, 1, none⟩ = some (.slice (some ⟨b, off, none⟩) ds.length cap)) ∧ Below X.heap.size X w' ∧ Below w.heap.size w w') := by
        intro V w' h1 h2
        have hX : Below X.heap.size X w' := HBY.out.trans ((h2.trans (h1.mono h2.size)).mono HBY.out.size)
        obtain ⟨hz, hw⟩ := HALL.out w' hX
        exact ⟨hz, hX, hw⟩
      have HGB : Hid (∀ V, Below Y.heap.size Y V → Below w.heap.size w V) := fun V hV => (HG.out Y V hV (Below.refl _ _)).2.2
      go_cut [17] from 12 to 16 (fun v wz => v = .bool (!P) ∧ Hid (Below X.heap.size X wz))
      case first =>
        go_region_law (first
          | (go_simp; go_at_call 63; refine Calls.mono (HSC.out _ (HGB.out _ ⟨rfl, rfl, rfl, Nat.le_refl _, fun _ _ => rfl⟩)) ?_; rintro e w5 ⟨ua, un, uc, rfl, i5, b5⟩; obtain ⟨⟨t0, t1⟩, x5, y5⟩ := HG.out _ _ b5 ⟨rfl, rfl, rfl, Nat.le_refl _, fun _ _ => rfl⟩; have HI5 : Hid _ := i5; have HX5 : Hid _ := x5; have HW5 : Hid _ := y5; clear HSC i5 x5 y5 b5 HG HGB)
          | (go_simp; go_at_call 118; refine Calls.mono (HC2.out _ ⟨HW5.out.os, HW5.out.tape, HW5.out.output, HW5.out.size, HW5.out.block⟩ _ HI5.out) ?_; rintro e w6 ⟨rfl, b6⟩; have HX6 : Hid (Below X.heap.size X w6) := HX5.out.trans ((⟨b6.os, b6.tape, b6.output, b6.size, b6.block⟩ : Below w5.heap.size w5 w6).mono HX5.out.size); clear HC2 b6))
        all_goals (go_wp2_with fail)
        all_goals go_meet
        all_goals exact ⟨rfl, HX6.out⟩
      obtain ⟨rfl, bc⟩ := hcut
      clear z0 z1 p0 p1 p2 p3 p4 p5 p6 p7 HC2 HSC HG HGB
      cases P
      · have HF0 : Hid _ := HF.out rfl
        obtain ⟨_, bw⟩ := HALL.out wc bc.out
        have HBE : Hid _ := bw
        clear bw
        go_wp2
        go_ret
        exact ⟨by rw [HF0.out]; rfl, HBE.out⟩
      · have HV0 : Hid _ := HV.out rfl
        go_wp2
        exact ⟨⟨k + 1, by omega, by go_num, HV0.out, bc.out⟩, by simp [intOf]; omega⟩
    · have hlt' : ¬ (k : Int) < (ds.length : Int) := by omega
      have HF : Hid (R = true) := by show _ = _; rw [← HR.out]; exact holdS_yes (fun m hm => hall m (by omega))
      clear hB hall bw
      go_wp2
      go_ret
      exact ⟨by rw [HF.out]; rfl, HBW.out⟩
end Go.Proofs.YtemlagfaaibenaaGreat.hp
