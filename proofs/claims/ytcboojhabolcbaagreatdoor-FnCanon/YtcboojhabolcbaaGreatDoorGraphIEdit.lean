/-
  Chapter 6 as the program has it: a graph copied whole.
  Made from the template GraphIEdit.
-/
import Derived.Test.YtcboojhabolcbaaGreatDoorM7
import Derived.Test.YtcboojhabolcbaaGreatDoorM11
namespace Go.Proofs.YtcboojhabolcbaaGreatDoor.gr
open Go.RowKit rows heads
set_option maxRecDepth 100000

theorem cellsO_sv : ∀ (ms : List MO) (k : Nat) (v : Value), k < ms.length → (cellsO ms).set (k * 5 + 4) v = cellsO (ms.set k { ms.getD k moD with sv := v })
  | [], _, _, h => by simp at h
  | m :: ms, 0, v, _ => by simp [cellsO]
  | m :: ms, k + 1, v, h => by
    have := cellsO_sv ms k v (by simpa using h)
    rw [show (k + 1) * 5 + 4 = k * 5 + 4 + 1 + 1 + 1 + 1 + 1 by omega]
    simpa [cellsO] using this
theorem fullO_sv {w : World} {b : Nat} {ms : List MO} (h : FullO w b ms) {k : Nat} (hk : k < ms.length) (v : Value) : FullO (w.setCell ⟨b, k * 5 + 4, none⟩ v) b (ms.set k { ms.getD k moD with sv := v }) := by
  refine (cells_setCell h (k * 5 + 4) v).trans ?_
  rw [← cellsO_sv ms k v hk]
  simp
theorem fullR_ch {S : List Nat} {w w' : World} {b : Nat} {es : List Rf} (h : FullR w b es) (hc : Ch S w w') (hb : b ∉ S) : FullR w' b es := (hc.block b (lt_of_block h) hb).trans h

/-- A copy under way: k objects have lists of their own. -/
structure CG (w : World) (n0 P R q1 q2 q3 : Nat) (ms : List MO) (G : Gr) (k : Nat) (ns : List MO) (wr : World) : Prop where
  len : ns.length = ms.length
  abs : ns.map MO.abs = ms.map MO.abs
  full : FullO wr q3 ns
  own : ∀ i, i < k → OwnR wr n0 (ns.getD i moD).sv (ns.getD i moD).slots
  rest : ∀ i, k ≤ i → i < ms.length → ns.getD i moD = ms.getD i moD
  nd : ([P, R, q1, q2, q3] ++ blks (ns.take k)).Nodup
  lt : ∀ x ∈ [P, R, q1, q2, q3] ++ blks (ns.take k), n0 ≤ x ∧ x < wr.heap.size
  gr : Five wr P 27 (.slice (some ⟨q3, 0, none⟩) ms.length ms.length) (.slice (some ⟨q1, 0, none⟩) G.roots.length G.roots.length) (.slice (some ⟨q2, 0, none⟩) G.mourned.length G.mourned.length) (.int .i64 G.next) (.int .i64 G.seed)
  res : Five wr R 27 (.slice none 0 0) (.slice none 0 0) (.slice none 0 0) (.int .i64 0) (.int .i64 0)
  r1 : FullR wr q1 G.roots
  r2 : FullR wr q2 G.mourned
  bel : Below n0 w wr

theorem take_set_succ {ns : List MO} {k : Nat} (hk : k < ns.length) (m : MO) : (ns.set k m).take (k + 1) = ns.take k ++ [m] := by
  rw [List.take_add_one, List.take_set_of_le (Nat.le_refl _)]
  simp [hk]

theorem CG.step {w : World} {n0 P R q1 q2 q3 : Nat} {ms : List MO} {G : Gr} {k : Nat} {ns : List MO} {wr w2 : World} (h : CG w n0 P R q1 q2 q3 ms G k ns wr) (hk : k < ms.length) (hn : n0 ≤ wr.heap.size)
    (hl : (ms.getD k moD).slots.length ≤ maxLen) (b2 : Below wr.heap.size wr w2) (F2 : FullR w2 wr.heap.size (ms.getD k moD).slots) :
    ∃ ns', CG w n0 P R q1 q2 q3 ms G (k + 1) ns' (w2.setCell ⟨q3, k * 5 + 4, none⟩ (.slice (some ⟨wr.heap.size, 0, none⟩) (ms.getD k moD).slots.length (ms.getD k moD).slots.length)) := by
  generalize hv : Value.slice (some ⟨wr.heap.size, 0, none⟩) (ms.getD k moD).slots.length (ms.getD k moD).slots.length = v
  have hkn : k < ns.length := by rw [h.len]; exact hk
  have hxk := h.rest k (Nat.le_refl _) hk
  have CH := one_ch w2 q3 (k * 5 + 4) v
  have hq3 : q3 < wr.heap.size := (h.lt q3 (by simp)).2
  have nd := h.nd
  have eb : blk v = [wr.heap.size] := by rw [← hv]; rfl
  have hget : ∀ i, i < ms.length → (ns.set k { ns.getD k moD with sv := v }).getD i moD = if i = k then { ns.getD k moD with sv := v } else ns.getD i moD := fun i hi => by
    rw [List.getD_eq_getElem?_getD, List.getElem?_set]
    by_cases e : k = i
    · subst e
      simp [hkn]
    · rw [if_neg e, if_neg (fun e' => e e'.symm), List.getD_eq_getElem?_getD]
  have etk : blks ((ns.set k { ns.getD k moD with sv := v }).take (k + 1)) = blks (ns.take k) ++ [wr.heap.size] := by
    rw [take_set_succ hkn, blks_snoc]
    show _ ++ blk v = _
    rw [eb]
  have ne3 : ∀ x, x = P ∨ x = R ∨ x = q1 ∨ x = q2 ∨ x ∈ blks (ns.take k) ∨ x = wr.heap.size → x ≠ q3 := by
    intro x hx e
    subst e
    simp only [List.cons_append, List.nil_append, List.nodup_cons, List.mem_cons, not_or] at nd
    rcases hx with hx | hx | hx | hx | hx | hx
    · exact nd.1.2.2.2.1 hx.symm
    · exact nd.2.1.2.2.1 hx.symm
    · exact nd.2.2.1.2.1 hx.symm
    · exact nd.2.2.2.1.1 hx.symm
    · exact nd.2.2.2.2.1 hx
    · omega
  have notS : ∀ x, x ≠ q3 → x ∉ [q3] := fun x hx e => hx (List.mem_singleton.1 e)
  refine ⟨ns.set k { ns.getD k moD with sv := v }, by rw [List.length_set]; exact h.len, ?_, fullO_sv (fullO_below h.full b2) hkn v, fun i hi => ?_, fun i h1 h2 => ?_, ?_, fun x hx => ?_, ?_, ?_, ?_, ?_, ?_⟩
  · rw [← h.abs]
    apply List.ext_getElem?
    intro i
    rw [List.getElem?_map, List.getElem?_map, List.getElem?_set]
    by_cases e : k = i
    · subst e
      rw [if_pos rfl, if_pos hkn, getD_getElem? hkn]
      rfl
    · rw [if_neg e]
  · rw [hget i (by omega)]
    by_cases e : i = k
    · subst e
      rw [if_pos rfl]
      show OwnR _ _ v (ns.getD i moD).slots
      have F3 := fullR_own (fullR_ch F2 CH (notS _ (ne3 _ (.inr (.inr (.inr (.inr (.inr rfl)))))))) hn hl
      rw [hv] at F3
      rw [hxk]
      exact F3
    · rw [if_neg e]
      have hi' : i < k := by omega
      refine row_ch (ownR_below (h.own i hi') b2) CH (fun x hx => notS x (ne3 x (.inr (.inr (.inr (.inr (.inl ?_)))))))
      simp only [blks, List.mem_flatMap]
      refine ⟨ns.getD i moD, ?_, hx⟩
      rw [List.mem_take_iff_getElem]
      exact ⟨i, by omega, by rw [List.getD_eq_getElem?_getD, List.getElem?_eq_getElem (by omega)]; rfl⟩
  · rw [hget i h2, if_neg (by omega)]
    exact h.rest i (by omega) h2
  · rw [etk, ← List.append_assoc, List.nodup_append]
    refine ⟨nd, by simp, fun a ha b hb e => ?_⟩
    have := (h.lt a ha).2
    rw [List.mem_singleton] at hb
    omega
  · rw [etk, ← List.append_assoc, List.mem_append] at hx
    have sz : (w2.setCell ⟨q3, k * 5 + 4, none⟩ v).heap.size = w2.heap.size := by simp
    have l2 := lt_of_block F2
    rcases hx with hx | hx
    · have := h.lt x hx
      have := b2.size
      omega
    · rw [List.mem_singleton] at hx
      omega
  · exact five_ch (five_below h.gr b2) CH (notS _ (ne3 _ (.inl rfl)))
  · exact five_ch (five_below h.res b2) CH (notS _ (ne3 _ (.inr (.inl rfl))))
  · exact fullR_ch (fullR_below h.r1 b2) CH (notS _ (ne3 _ (.inr (.inr (.inl rfl)))))
  · exact fullR_ch (fullR_below h.r2 b2) CH (notS _ (ne3 _ (.inr (.inr (.inr (.inl rfl))))))
  · exact (h.bel.trans (b2.mono hn)).setCell (p := ⟨q3, k * 5 + 4, none⟩) (h.lt q3 (by simp)).1 v

theorem CG.done {w : World} {n0 P R q1 q2 q3 : Nat} {ms : List MO} {G : Gr} {ns : List MO} {wr : World} (h : CG w n0 P R q1 q2 q3 ms G ms.length ns wr) (ea : ms.map MO.abs = G.objs) (l1 : ms.length ≤ maxLen) (l2 : G.roots.length ≤ maxLen) (l3 : G.mourned.length ≤ maxLen) :
    OwnG wr n0 (.slice (some ⟨q3, 0, none⟩) ms.length ms.length) (.slice (some ⟨q1, 0, none⟩) G.roots.length G.roots.length) (.slice (some ⟨q2, 0, none⟩) G.mourned.length G.mourned.length) ns G := by
  have et : ns.take ms.length = ns := by rw [← h.len, List.take_length]
  have nd := h.nd
  rw [et] at nd
  have lt := h.lt
  rw [et] at lt
  simp only [List.cons_append, List.nil_append, List.nodup_cons, List.mem_cons, not_or] at nd
  obtain ⟨_, _, ⟨a1, a2, a3⟩, ⟨b1, b2⟩, c1, c2⟩ := nd
  refine ⟨h.abs.trans ea, ⟨?_, fun m hm => ?_, ?_⟩, fullR_own h.r1 (lt q1 (by simp)).1 l2, fullR_own h.r2 (lt q2 (by simp)).1 l3, ?_⟩
  · have := fullO_own h.full (lt q3 (by simp)).1 (by rw [h.len]; exact l1)
    rw [h.len] at this
    exact this
  · obtain ⟨i, hi, rfl⟩ := List.getElem_of_mem hm
    have := h.own i (by rw [← h.len]; exact hi)
    rw [List.getD_eq_getElem?_getD, List.getElem?_eq_getElem hi] at this
    exact this
  · show ([q3] ++ blks ns).Nodup
    rw [List.singleton_append, List.nodup_cons]
    exact ⟨c1, c2⟩
  · show ([q3] ++ blks ns ++ [q1] ++ [q2]).Nodup
    simp only [List.nodup_append, List.mem_append, List.mem_singleton]
    refine ⟨⟨⟨by simp, c2, fun a ha b hb e => ?_⟩, by simp, fun a ha b hb e => ?_⟩, by simp, fun a ha b hb e => ?_⟩
    · subst ha e; exact c1 hb
    · subst hb e
      rcases ha with ha | ha
      · exact a2 ha
      · exact a3 ha
    · subst hb e
      rcases ha with (ha | ha) | ha
      · exact b1 ha
      · exact b2 ha
      · exact a1 ha.symm

set_option maxHeartbeats 8000000 in
theorem copiedGraph_any {w : World} {o r m : Value} {ms : List MO} {G : Gr} (h : GraphAt w o r m ms G) (hs : gSize ms G ≤ 1048576) :
    Calls Tryz.prog 62 #[gv o r m G.next G.seed] w fun e w' => ∃ o' r' m' ns, e = .returned (gv o' r' m' G.next G.seed) ∧ OwnG w' w.heap.size o' r' m' ns G ∧ Below w.heap.size w w' := by
  have hss := gSize_slots hs
  have hsz : ms.length ≤ 1048576 ∧ G.roots.length ≤ 1048576 ∧ G.mourned.length ≤ 1048576 := by unfold gSize at hs; omega
  have hmx : (1048576 : Nat) ≤ maxLen := by decide
  have h0 := h
  obtain ⟨a1, n1, c1, a2, n2, c2, a3, n3, c3, e1, e2, e3⟩ := graphAt_slices h
  subst e1 e2 e3
  obtain ⟨ea, hO, hR, hM⟩ := h
  have hsl := objs_slices hO
  have HO : Hid _ := hO
  have HR : Hid _ := hR
  have HM : Hid _ := hM
  have HSL : Hid _ := hsl
  have HSS : Hid _ := hss
  have HEA : Hid _ := ea
  have HSZ : Hid _ := hsz
  clear hO hR hM hsl ea h0 hss hs
  generalize hn0 : w.heap.size = n0
  have B0 : Below n0 w ((w.alloc (gb (.slice a1 n1 c1) (.slice a2 n2 c2) (.slice a3 n3 c3) G.next G.seed)).alloc (gb (.slice none 0 0) (.slice none 0 0) (.slice none 0 0) 0 0)) := ((Below.refl _ w).alloc (by omega) _).alloc (by simp; omega) _
  have TP : Five ((w.alloc (gb (.slice a1 n1 c1) (.slice a2 n2 c2) (.slice a3 n3 c3) G.next G.seed)).alloc (gb (.slice none 0 0) (.slice none 0 0) (.slice none 0 0) 0 0)) n0 27 (.slice a1 n1 c1) (.slice a2 n2 c2) (.slice a3 n3 c3) (.int .i64 G.next) (.int .i64 G.seed) := by
    rw [← hn0]
    exact five_below (five_new w _ _ _ _ _ _) ((Below.refl _ _).alloc (Nat.le_refl _) _)
  have TR : Five ((w.alloc (gb (.slice a1 n1 c1) (.slice a2 n2 c2) (.slice a3 n3 c3) G.next G.seed)).alloc (gb (.slice none 0 0) (.slice none 0 0) (.slice none 0 0) 0 0)) (n0 + 1) 27 (.slice none 0 0) (.slice none 0 0) (.slice none 0 0) (.int .i64 0) (.int .i64 0) := by
    have := five_new (w.alloc (gb (.slice a1 n1 c1) (.slice a2 n2 c2) (.slice a3 n3 c3) G.next G.seed)) 27 (.slice none 0 0) (.slice none 0 0) (.slice none 0 0) (.int .i64 0) (.int .i64 0)
    rw [← hn0]
    simpa using this
  have BW : ∀ {X : World}, Below n0 w X → Below w.heap.size w X := fun hb => by rw [hn0]; exact hb
  have HBW : Hid _ := @BW
  clear BW
  go_enter Tryz.func62, Tryz.ntmps62
  go_wp2_with fail
  have C1 := copiedR_any (refsAt_below HR.out (HBW.out B0)) HSZ.out.2.1
  have hX : n0 + 2 ≤ ((w.alloc (gb (.slice a1 n1 c1) (.slice a2 n2 c2) (.slice a3 n3 c3) G.next G.seed)).alloc (gb (.slice none 0 0) (.slice none 0 0) (.slice none 0 0) 0 0)).heap.size := by simp; omega
  generalize ((w.alloc (gb (.slice a1 n1 c1) (.slice a2 n2 c2) (.slice a3 n3 c3) G.next G.seed)).alloc (gb (.slice none 0 0) (.slice none 0 0) (.slice none 0 0) 0 0)) = X at *
  refine C1.mono ?_
  rintro e w1 ⟨rfl, F1, b1⟩
  clear C1
  generalize hq1 : X.heap.size = q1 at *
  have B1 := B0.trans (b1.mono (by omega))
  have TP1 := five_below TP (by rw [hq1]; exact b1)
  have TR1 := five_below TR (by rw [hq1]; exact b1)
  have l1 := lt_of_block F1
  obtain ⟨z0, z1, z2, z3, z4, zf⟩ := five_cells TP1
  have f1 := zf 1
  have CH1 := one_ch w1 n0 1 (.slice (some ⟨q1, 0, none⟩) G.roots.length G.roots.length)
  have HTP : Hid _ := five_set1 TP1 (.slice (some ⟨q1, 0, none⟩) G.roots.length G.roots.length)
  have HTR : Hid _ := five_ch TR1 CH1 (by simp)
  have HF1 : Hid _ := fullR_ch F1 CH1 (by simp; omega)
  have HB1 : Hid _ := B1.setCell (p := ⟨n0, 1, none⟩) (Nat.le_refl _) (.slice (some ⟨q1, 0, none⟩) G.roots.length G.roots.length)
  have hY : q1 < (w1.setCell ⟨n0, 1, none⟩ (.slice (some ⟨q1, 0, none⟩) G.roots.length G.roots.length)).heap.size := by simpa using l1
  clear TP TR B0 b1 F1 B1 TP1 TR1 CH1 zf l1
  go_wp2_with fail
  have C2 := copiedR_any (refsAt_below HM.out (HBW.out HB1.out)) HSZ.out.2.2
  generalize (w1.setCell ⟨n0, 1, none⟩ (.slice (some ⟨q1, 0, none⟩) G.roots.length G.roots.length)) = Y at *
  refine C2.mono ?_
  rintro e w2 ⟨rfl, F2, b2⟩
  clear C2 z0 z1 z2 z3 z4 f1
  generalize hq2 : Y.heap.size = q2 at *
  have B2 := HB1.out.trans (b2.mono (by omega))
  have TP2 := five_below HTP.out (by rw [hq2]; exact b2)
  have TR2 := five_below HTR.out (by rw [hq2]; exact b2)
  have F12 := fullR_below HF1.out (by rw [hq2]; exact b2)
  have l2 := lt_of_block F2
  obtain ⟨z0, z1, z2, z3, z4, zf⟩ := five_cells TP2
  have f1 := zf 2
  have CH2 := one_ch w2 n0 2 (.slice (some ⟨q2, 0, none⟩) G.mourned.length G.mourned.length)
  have HTP2 : Hid _ := five_set2 TP2 (.slice (some ⟨q2, 0, none⟩) G.mourned.length G.mourned.length)
  have HTR2 : Hid _ := five_ch TR2 CH2 (by simp)
  have HF12 : Hid _ := fullR_ch F12 CH2 (by simp; omega)
  have HF2 : Hid _ := fullR_ch F2 CH2 (by simp; omega)
  have HB2 : Hid _ := B2.setCell (p := ⟨n0, 2, none⟩) (Nat.le_refl _) (.slice (some ⟨q2, 0, none⟩) G.mourned.length G.mourned.length)
  have hZ : q2 < (w2.setCell ⟨n0, 2, none⟩ (.slice (some ⟨q2, 0, none⟩) G.mourned.length G.mourned.length)).heap.size := by simpa using l2
  clear HTP HTR HF1 HB1 b2 F2 B2 TP2 TR2 F12 CH2 zf l2
  go_wp2_with fail
  have C3 := copiedO_any (orowAt_below HO.out.1 (HBW.out HB2.out)) HSL.out HSZ.out.1
  generalize (w2.setCell ⟨n0, 2, none⟩ (.slice (some ⟨q2, 0, none⟩) G.mourned.length G.mourned.length)) = Z at *
  refine C3.mono ?_
  rintro e w3 ⟨rfl, F3, b3⟩
  clear C3 z0 z1 z2 z3 z4 f1
  generalize hq3 : Z.heap.size = q3 at *
  have B3 := HB2.out.trans (b3.mono (by omega))
  have TP3 := five_below HTP2.out (by rw [hq3]; exact b3)
  have TR3 := five_below HTR2.out (by rw [hq3]; exact b3)
  have F13 := fullR_below HF12.out (by rw [hq3]; exact b3)
  have F23 := fullR_below HF2.out (by rw [hq3]; exact b3)
  have l3 := lt_of_block F3
  obtain ⟨z0, z1, z2, z3, z4, zf⟩ := five_cells TP3
  have f1 := zf 0
  have CH3 := one_ch w3 n0 0 (.slice (some ⟨q3, 0, none⟩) ms.length ms.length)
  have hS : q3 < (w3.setCell ⟨n0, 0, none⟩ (.slice (some ⟨q3, 0, none⟩) ms.length ms.length)).heap.size := by simpa using l3
  have HCG : Hid (CG w n0 n0 (n0 + 1) q1 q2 q3 ms G 0 ms (w3.setCell ⟨n0, 0, none⟩ (.slice (some ⟨q3, 0, none⟩) ms.length ms.length))) := by
    refine ⟨rfl, rfl, ?_, fun i hi => by omega, fun i _ _ => rfl, ?_, ?_, five_set0 TP3 _, five_ch TR3 CH3 (by simp), fullR_ch F13 CH3 (by simp; omega), fullR_ch F23 CH3 (by simp; omega), B3.setCell (p := ⟨n0, 0, none⟩) (Nat.le_refl _) _⟩
    · exact (CH3.block q3 l3 (by simp; omega)).trans F3
    · simp [blks]; omega
    · intro x hx
      simp [blks] at hx
      omega
  clear HTP2 HTR2 HF12 HF2 HB2 b3 F3 B3 TP3 TR3 F13 F23 CH3 zf l3
  go_wp2_with fail
  generalize (w3.setCell ⟨n0, 0, none⟩ (.slice (some ⟨q3, 0, none⟩) ms.length ms.length)) = S0 at *
  clear z0 z1 z2 z3 z4 f1 hq1 hq2 hq3
  go_loopw [19] (fun p wr => ∃ (k : Nat) (ns : List MO), k ≤ ms.length ∧ p = .int .i64 k ∧ Hid (CG w n0 n0 (n0 + 1) q1 q2 q3 ms G k ns wr) ∧ q3 < wr.heap.size) (fun p _ => ms.length - (intOf p).toNat)
  case atStart => exact ⟨0, ms, Nat.zero_le _, rfl, HCG, hS⟩
  case round =>
    obtain ⟨k, ns, hk, rfl, HK, hq⟩ := hrel
    clear HCG hS
    have y0 := (five_cells HK.out.gr).1
    by_cases hlt : k < ms.length
    · have hx := HK.out.rest k (Nat.le_refl _) hlt
      obtain ⟨_, _, _, _, d4⟩ := fullO_cell HK.out.full (i := k) (by rw [HK.out.len]; exact hlt)
      rw [hx] at d4
      have RA := refsAt_below (HO.out.2 _ (mem_getD hlt)) (HBW.out HK.out.bel)
      have CR := copiedR_any (w := wr.drew) (refsAt_drewN (n := 1) RA) (HSS.out _ (mem_getD hlt))
      have HST : Hid (∀ w2, Below wr.heap.size wr w2 → FullR w2 wr.heap.size (ms.getD k moD).slots → _) := fun w2 hb hF => HK.out.step hlt (by omega) (Nat.le_trans (HSS.out _ (mem_getD hlt)) hmx) hb hF
      obtain ⟨sa, sn, sc, hsv⟩ := refs_slice RA
      rw [hsv] at d4 CR
      have hfz : ∀ w2, Below wr.heap.size wr w2 → w2.frozen? ⟨q3, k * 5 + 4, none⟩ = false := fun w2 hb => fullO_frozen (fullO_below HK.out.full hb) _
      have HFZ : Hid _ := hfz
      clear RA hx hsv hfz HK
      generalize (ms.getD k moD).slots = xs at *
      go_wp2_with fail
      go_region_law (go_simp; go_at_call 83; refine CR.mono ?_; rintro e w2 ⟨rfl, F2, b2⟩; have b2' : Below wr.heap.size wr w2 := ⟨b2.os, b2.tape, b2.output, b2.size, b2.block⟩; have p0 := (b2'.cell (p := ⟨n0, 0, none⟩) (by show n0 < _; omega)).trans y0; have p4 := (b2'.cell (p := ⟨q3, k * 5 + 4, none⟩) hq).trans d4; have pf := HFZ.out w2 b2'; have HSX : Hid _ := HST.out w2 b2' F2; have sz2 := b2'.size; clear F2 b2 b2')
      all_goals go_wp2
      all_goals (obtain ⟨ns', hN⟩ := HSX.out)
      all_goals exact ⟨⟨k + 1, ns', by omega, by go_num, hN, by simp; omega⟩, by simp [intOf]; omega⟩
    · have e : k = ms.length := by omega
      subst e
      have OW := HK.out.done HEA.out (by omega) (by omega) (by omega)
      have TPX := HK.out.gr
      have TRX := HK.out.res
      have BX := HK.out.bel
      have hR : n0 + 1 ∉ gblk (.slice (some ⟨q3, 0, none⟩) ms.length ms.length) (.slice (some ⟨q1, 0, none⟩) G.roots.length G.roots.length) (.slice (some ⟨q2, 0, none⟩) G.mourned.length G.mourned.length) ns := by
        have nd := HK.out.nd
        rw [← HK.out.len, List.take_length] at nd
        simp only [List.cons_append, List.nil_append, List.nodup_cons, List.mem_cons, not_or] at nd
        obtain ⟨_, ⟨r1, r2, r3, r4⟩, _⟩ := nd
        simp only [gblk, blk_some, List.mem_append, List.mem_singleton, not_or]
        exact ⟨⟨⟨r3, r4⟩, r1⟩, r2⟩
      obtain ⟨z0, z1, z2, z3, z4, _⟩ := five_cells TPX
      obtain ⟨v0, v1, v2, v3, v4, vf⟩ := five_cells TRX
      have g0 := vf 0
      have g1 := vf 1
      have g2 := vf 2
      have g3 := vf 3
      have g4 := vf 4
      have HOW : Hid _ := ownG_ch OW (five_other (X := wr) (b := n0 + 1) (.slice (some ⟨q3, 0, none⟩) ms.length ms.length) (.slice (some ⟨q1, 0, none⟩) G.roots.length G.roots.length) (.slice (some ⟨q2, 0, none⟩) G.mourned.length G.mourned.length) (.int .i64 G.next) (.int .i64 G.seed)) (fun x hx e => hR ((List.mem_singleton.1 e) ▸ hx))
      have HTX : Hid _ := five_sets TRX (.slice (some ⟨q3, 0, none⟩) ms.length ms.length) (.slice (some ⟨q1, 0, none⟩) G.roots.length G.roots.length) (.slice (some ⟨q2, 0, none⟩) G.mourned.length G.mourned.length) (.int .i64 G.next) (.int .i64 G.seed)
      have HBX : Hid _ := five_belows BX (show n0 ≤ n0 + 1 by omega) (.slice (some ⟨q3, 0, none⟩) ms.length ms.length) (.slice (some ⟨q1, 0, none⟩) G.roots.length G.roots.length) (.slice (some ⟨q2, 0, none⟩) G.mourned.length G.mourned.length) (.int .i64 G.next) (.int .i64 G.seed)
      clear vf OW TPX TRX BX hR HK y0 HO HR HM HSL HSS HEA HSZ HBW
      go_wp2
      exact bodyPost_ret (res_gr rfl rfl HTX.out) rfl ⟨_, _, _, ns, rfl, HOW.out, HBX.out⟩
end Go.Proofs.YtcboojhabolcbaaGreatDoor.gr
