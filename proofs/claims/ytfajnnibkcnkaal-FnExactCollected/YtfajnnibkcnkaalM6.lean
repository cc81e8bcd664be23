/-
  Chapter 6 as the program has it: a graph copied whole. What the program asks of an object's head. Chapter 6 as lists: Ids that rise, where a search among them ends, and what the program asks of a graph. Chapter 6 as the program has it: what a ref says, and where an Id stands. Chapter 6 as the program has it: the place of an Id among Ids that rise (slices.BinarySearchFunc).
-/
import Derived.Test.YtfajnnibkcnkaalM5
import Derived.Test.YtfajnnibkcnkaalM2
import Derived.Below
import Derived.Test.YtfajnnibkcnkaalM1
import Derived.Test.YtfajnnibkcnkaalM3
namespace Go.Proofs.Ytfajnnibkcnkaal.gr
open Go.RowKit rows heads
set_option maxRecDepth 100000

theorem cellsO_sv : ∀ (ms : List MO) (k : Nat) (v : Value), k < ms.length → (cellsO ms).set (k * 5 + 4) v = cellsO (ms.set k { ms.getD k moD with sv := v })
  | [], _, _, h => by simp at h
  | m :: ms, 0, v, _ => by simp [cellsO]
  | m :: ms, k + 1, v, h => by
    have := cellsO_sv ms k v (by simpa using h)
    rw [show (k + 1) * 5 + 4 = k * 5 + 4 + 1 + 1 + 1 + 1 + 1 by omega]
    simpa [cellsO] using this
theorem fullO_sv {w : World} {b : Nat} {ms : List MO} (h : FullO w b ms) {k : Nat} (hk : k < ms.length) (v : Value) : FullO (w.setCell ⟨b, k * 5 + 4, none⟩ v) b (ms.set k { ms.getD k moD with sv := v }) := by
  refine (cells_setCell h (k * 5 + 4) v).trans ?_
  rw [← cellsO_sv ms k v hk]
  simp
theorem fullR_ch {S : List Nat} {w w' : World} {b : Nat} {es : List Rf} (h : FullR w b es) (hc : Ch S w w') (hb : b ∉ S) : FullR w' b es := (hc.block b (lt_of_block h) hb).trans h

/-- A copy under way: k objects have lists of their own. -/
structure CG (w : World) (n0 P R q1 q2 q3 : Nat) (ms : List MO) (G : Gr) (k : Nat) (ns : List MO) (wr : World) : Prop where
  len : ns.length = ms.length
  abs : ns.map MO.abs = ms.map MO.abs
  full : FullO wr q3 ns
  own : ∀ i, i < k → OwnR wr n0 (ns.getD i moD).sv (ns.getD i moD).slots
  rest : ∀ i, k ≤ i → i < ms.length → ns.getD i moD = ms.getD i moD
  nd : ([P, R, q1, q2, q3] ++ blks (ns.take k)).Nodup
  lt : ∀ x ∈ [P, R, q1, q2, q3] ++ blks (ns.take k), n0 ≤ x ∧ x < wr.heap.size
  gr : Five wr P 32 (.slice (some ⟨q3, 0, none⟩) ms.length ms.length) (.slice (some ⟨q1, 0, none⟩) G.roots.length G.roots.length) (.slice (some ⟨q2, 0, none⟩) G.mourned.length G.mourned.length) (.int .i64 G.next) (.int .i64 G.seed)
  res : Five wr R 32 (.slice none 0 0) (.slice none 0 0) (.slice none 0 0) (.int .i64 0) (.int .i64 0)
  r1 : FullR wr q1 G.roots
  r2 : FullR wr q2 G.mourned
  bel : Below n0 w wr

theorem take_set_succ {ns : List MO} {k : Nat} (hk : k < ns.length) (m : MO) : (ns.set k m).take (k + 1) = ns.take k ++ [m] := by
  rw [List.take_add_one, List.take_set_of_le (Nat.le_refl _)]
  simp [hk]

theorem CG.step {w : World} {n0 P R q1 q2 q3 : Nat} {ms : List MO} {G : Gr} {k : Nat} {ns : List MO} {wr w2 : World} (h : CG w n0 P R q1 q2 q3 ms G k ns wr) (hk : k < ms.length) (hn : n0 ≤ wr.heap.size)
    (hl : (ms.getD k moD).slots.length ≤ maxLen) (b2 : Below wr.heap.size wr w2) (F2 : FullR w2 wr.heap.size (ms.getD k moD).slots) :
    ∃ ns', CG w n0 P R q1 q2 q3 ms G (k + 1) ns' (w2.setCell ⟨q3, k * 5 + 4, none⟩ (.slice (some ⟨wr.heap.size, 0, none⟩) (ms.getD k moD).slots.length (ms.getD k moD).slots.length)) := by
  generalize hv : Value.slice (some ⟨wr.heap.size, 0, none⟩) (ms.getD k moD).slots.length (ms.getD k moD).slots.length = v
  have hkn : k < ns.length := by rw [h.len]; exact hk
  have hxk := h.rest k (Nat.le_refl _) hk
  have CH := one_ch w2 q3 (k * 5 + 4) v
  have hq3 : q3 < wr.heap.size := (h.lt q3 (by simp)).2
  have nd := h.nd
  have eb : blk v = [wr.heap.size] := by rw [← hv]; rfl
  have hget : ∀ i, i < ms.length → (ns.set k { ns.getD k moD with sv := v }).getD i moD = if i = k then { ns.getD k moD with sv := v } else ns.getD i moD := fun i hi => by
    rw [List.getD_eq_getElem?_getD, List.getElem?_set]
    by_cases e : k = i
    · subst e
      simp [hkn]
    · rw [if_neg e, if_neg (fun e' => e e'.symm), List.getD_eq_getElem?_getD]
  have etk : blks ((ns.set k { ns.getD k moD with sv := v }).take (k + 1)) = blks (ns.take k) ++ [wr.heap.size] := by
    rw [take_set_succ hkn, blks_snoc]
    show _ ++ blk v = _
    rw [eb]
  have ne3 : ∀ x, x = P ∨ x = R ∨ x = q1 ∨ x = q2 ∨ x ∈ blks (ns.take k) ∨ x = wr.heap.size → x ≠ q3 := by
    intro x hx e
    subst e
    simp only [List.cons_append, List.nil_append, List.nodup_cons, List.mem_cons, not_or] at nd
    rcases hx with hx | hx | hx | hx | hx | hx
    · exact nd.1.2.2.2.1 hx.symm
    · exact nd.2.1.2.2.1 hx.symm
    · exact nd.2.2.1.2.1 hx.symm
    · exact nd.2.2.2.1.1 hx.symm
    · exact nd.2.2.2.2.1 hx
    · omega
  have notS : ∀ x, x ≠ q3 → x ∉ [q3] := fun x hx e => hx (List.mem_singleton.1 e)
  refine ⟨ns.set k { ns.getD k moD with sv := v }, by rw [List.length_set]; exact h.len, ?_, fullO_sv (fullO_below h.full b2) hkn v, fun i hi => ?_, fun i h1 h2 => ?_, ?_, fun x hx => ?_, ?_, ?_, ?_, ?_, ?_⟩
  · rw [← h.abs]
    apply List.ext_getElem?
    intro i
    rw [List.getElem?_map, List.getElem?_map, List.getElem?_set]
    by_cases e : k = i
    · subst e
      rw [if_pos rfl, if_pos hkn, getD_getElem? hkn]
      rfl
    · rw [if_neg e]
  · rw [hget i (by omega)]
    by_cases e : i = k
    · subst e
      rw [if_pos rfl]
      show OwnR _ _ v (ns.getD i moD).slots
      have F3 := fullR_own (fullR_ch F2 CH (notS _ (ne3 _ (.inr (.inr (.inr (.inr (.inr rfl)))))))) hn hl
      rw [hv] at F3
      rw [hxk]
      exact F3
    · rw [if_neg e]
      have hi' : i < k := by omega
      refine row_ch (ownR_below (h.own i hi') b2) CH (fun x hx => notS x (ne3 x (.inr (.inr (.inr (.inr (.inl ?_)))))))
      simp only [blks, List.mem_flatMap]
      refine ⟨ns.getD i moD, ?_, hx⟩
      rw [List.mem_take_iff_getElem]
      exact ⟨i, by omega, by rw [List.getD_eq_getElem?_getD, List.getElem?_eq_getElem (by omega)]; rfl⟩
  · rw [hget i h2, if_neg (by omega)]
    exact h.rest i (by omega) h2
  · rw [etk, ← List.append_assoc, List.nodup_append]
    refine ⟨nd, by simp, fun a ha b hb e => ?_⟩
    have := (h.lt a ha).2
    rw [List.mem_singleton] at hb
    omega
  · rw [etk, ← List.append_assoc, List.mem_append] at hx
    have sz : (w2.setCell ⟨q3, k * 5 + 4, none⟩ v).heap.size = w2.heap.size := by simp
    have l2 := lt_of_block F2
    rcases hx with hx | hx
    · have := h.lt x hx
      have := b2.size
      omega
    · rw [List.mem_singleton] at hx
      omega
  · exact five_ch (five_below h.gr b2) CH (notS _ (ne3 _ (.inl rfl)))
  · exact five_ch (five_below h.res b2) CH (notS _ (ne3 _ (.inr (.inl rfl))))
  · exact fullR_ch (fullR_below h.r1 b2) CH (notS _ (ne3 _ (.inr (.inr (.inl rfl)))))
  · exact fullR_ch (fullR_below h.r2 b2) CH (notS _ (ne3 _ (.inr (.inr (.inr (.inl rfl))))))
  · exact (h.bel.trans (b2.mono hn)).setCell (p := ⟨q3, k * 5 + 4, none⟩) (h.lt q3 (by simp)).1 v

theorem CG.done {w : World} {n0 P R q1 q2 q3 : Nat} {ms : List MO} {G : Gr} {ns : List MO} {wr : World} (h : CG w n0 P R q1 q2 q3 ms G ms.length ns wr) (ea : ms.map MO.abs = G.objs) (l1 : ms.length ≤ maxLen) (l2 : G.roots.length ≤ maxLen) (l3 : G.mourned.length ≤ maxLen) :
    OwnG wr n0 (.slice (some ⟨q3, 0, none⟩) ms.length ms.length) (.slice (some ⟨q1, 0, none⟩) G.roots.length G.roots.length) (.slice (some ⟨q2, 0, none⟩) G.mourned.length G.mourned.length) ns G := by
  have et : ns.take ms.length = ns := by rw [← h.len, List.take_length]
  have nd := h.nd
  rw [et] at nd
  have lt := h.lt
  rw [et] at lt
  simp only [List.cons_append, List.nil_append, List.nodup_cons, List.mem_cons, not_or] at nd
  obtain ⟨_, _, ⟨a1, a2, a3⟩, ⟨b1, b2⟩, c1, c2⟩ := nd
  refine ⟨h.abs.trans ea, ⟨?_, fun m hm => ?_, ?_⟩, fullR_own h.r1 (lt q1 (by simp)).1 l2, fullR_own h.r2 (lt q2 (by simp)).1 l3, ?_⟩
  · have := fullO_own h.full (lt q3 (by simp)).1 (by rw [h.len]; exact l1)
    rw [h.len] at this
    exact this
  · obtain ⟨i, hi, rfl⟩ := List.getElem_of_mem hm
    have := h.own i (by rw [← h.len]; exact hi)
    rw [List.getD_eq_getElem?_getD, List.getElem?_eq_getElem hi] at this
    exact this
  · show ([q3] ++ blks ns).Nodup
    rw [List.singleton_append, List.nodup_cons]
    exact ⟨c1, c2⟩
  · show ([q3] ++ blks ns ++ [q1] ++ [q2]).Nodup
    simp only [List.nodup_append, List.mem_append, List.mem_singleton]
    refine ⟨⟨⟨by simp, c2, fun a ha b hb e => ?_⟩, by simp, fun a ha b hb e => ?_⟩, by simp, fun a ha b hb e => ?_⟩
    · subst ha e; exact c1 hb
    · subst hb e
      rcases ha with ha | ha
      · exact a2 ha
      · exact a3 ha
    · subst hb e
      rcases ha with (ha | ha) | ha
      · exact b1 ha
      · exact b2 ha
      · exact a1 ha.symm

set_option maxHeartbeats 8000000 in
theorem copiedGraph_any {w : World} {o r m : Value} {ms : List MO} {G : Gr} (h : GraphAt w o r m ms G) (hs : gSize ms G ≤ 1048576) :
    Calls Try.prog 80 #[gv o r m G.next G.seed] w fun e w' => ∃ o' r' m' ns, e = .returned (gv o' r' m' G.next G.seed) ∧ OwnG w' w.heap.size o' r' m' ns G ∧ Below w.heap.size w w' := by
  have hss := gSize_slots hs
  have hsz : ms.length ≤ 1048576 ∧ G.roots.length ≤ 1048576 ∧ G.mourned.length ≤ 1048576 := by unfold gSize at hs; omega
  have hmx : (1048576 : Nat) ≤ maxLen := by decide
  have h0 := h
  obtain ⟨a1, n1, c1, a2, n2, c2, a3, n3, c3, e1, e2, e3⟩ := graphAt_slices h
  subst e1 e2 e3
  obtain ⟨ea, hO, hR, hM⟩ := h
  have hsl := objs_slices hO
  have HO : Hid _ := hO
  have HR : Hid _ := hR
  have HM : Hid _ := hM
  have HSL : Hid _ := hsl
  have HSS : Hid _ := hss
  have HEA : Hid _ := ea
  have HSZ : Hid _ := hsz
  clear hO hR hM hsl ea h0 hss hs
  generalize hn0 : w.heap.size = n0
  have B0 : Below n0 w ((w.alloc (gb (.slice a1 n1 c1) (.slice a2 n2 c2) (.slice a3 n3 c3) G.next G.seed)).alloc (gb (.slice none 0 0) (.slice none 0 0) (.slice none 0 0) 0 0)) := ((Below.refl _ w).alloc (by omega) _).alloc (by simp; omega) _
  have TP : Five ((w.alloc (gb (.slice a1 n1 c1) (.slice a2 n2 c2) (.slice a3 n3 c3) G.next G.seed)).alloc (gb (.slice none 0 0) (.slice none 0 0) (.slice none 0 0) 0 0)) n0 32 (.slice a1 n1 c1) (.slice a2 n2 c2) (.slice a3 n3 c3) (.int .i64 G.next) (.int .i64 G.seed) := by
    rw [← hn0]
    exact five_below (five_new w _ _ _ _ _ _) ((Below.refl _ _).alloc (Nat.le_refl _) _)
  have TR : Five ((w.alloc (gb (.slice a1 n1 c1) (.slice a2 n2 c2) (.slice a3 n3 c3) G.next G.seed)).alloc (gb (.slice none 0 0) (.slice none 0 0) (.slice none 0 0) 0 0)) (n0 + 1) 32 (.slice none 0 0) (.slice none 0 0) (.slice none 0 0) (.int .i64 0) (.int .i64 0) := by
    have := five_new (w.alloc (gb (.slice a1 n1 c1) (.slice a2 n2 c2) (.slice a3 n3 c3) G.next G.seed)) 32 (.slice none 0 0) (.slice none 0 0) (.slice none 0 0) (.int .i64 0) (.int .i64 0)
    rw [← hn0]
    simpa using this
  have BW : ∀ {X : World}, Below n0 w X → Below w.heap.size w X := fun hb => by rw [hn0]; exact hb
  have HBW : Hid _ := @BW
  clear BW
  go_enter Try.func80, Try.ntmps80
  go_wp2_with fail
  have C1 := copiedR_any (refsAt_below HR.out (HBW.out B0)) HSZ.out.2.1
  have hX : n0 + 2 ≤ ((w.alloc (gb (.slice a1 n1 c1) (.slice a2 n2 c2) (.slice a3 n3 c3) G.next G.seed)).alloc (gb (.slice none 0 0) (.slice none 0 0) (.slice none 0 0) 0 0)).heap.size := by simp; omega
  generalize ((w.alloc (gb (.slice a1 n1 c1) (.slice a2 n2 c2) (.slice a3 n3 c3) G.next G.seed)).alloc (gb (.slice none 0 0) (.slice none 0 0) (.slice none 0 0) 0 0)) = X at *
  refine C1.mono ?_
  rintro e w1 ⟨rfl, F1, b1⟩
  clear C1
  generalize hq1 : X.heap.size = q1 at *
  have B1 := B0.trans (b1.mono (by omega))
  have TP1 := five_below TP (by rw [hq1]; exact b1)
  have TR1 := five_below TR (by rw [hq1]; exact b1)
  have l1 := lt_of_block F1
  obtain ⟨z0, z1, z2, z3, z4, zf⟩ := five_cells TP1
  have f1 := zf 1
  have CH1 := one_ch w1 n0 1 (.slice (some ⟨q1, 0, none⟩) G.roots.length G.roots.length)
  have HTP : Hid _ := five_set1 TP1 (.slice (some ⟨q1, 0, none⟩) G.roots.length G.roots.length)
  have HTR : Hid _ := five_ch TR1 CH1 (by simp)
  have HF1 : Hid _ := fullR_ch F1 CH1 (by simp; omega)
  have HB1 : Hid _ := B1.setCell (p := ⟨n0, 1, none⟩) (Nat.le_refl _) (.slice (some ⟨q1, 0, none⟩) G.roots.length G.roots.length)
  have hY : q1 < (w1.setCell ⟨n0, 1, none⟩ (.slice (some ⟨q1, 0, none⟩) G.roots.length G.roots.length)).heap.size := by simpa using l1
  clear TP TR B0 b1 F1 B1 TP1 TR1 CH1 zf l1
  go_wp2_with fail
  have C2 := copiedR_any (refsAt_below HM.out (HBW.out HB1.out)) HSZ.out.2.2
  generalize (w1.setCell ⟨n0, 1, none⟩ (.slice (some ⟨q1, 0, none⟩) G.roots.length G.roots.length)) = Y at *
  refine C2.mono ?_
  rintro e w2 ⟨rfl, F2, b2⟩
  clear C2 z0 z1 z2 z3 z4 f1
  generalize hq2 : Y.heap.size = q2 at *
  have B2 := HB1.out.trans (b2.mono (by omega))
  have TP2 := five_below HTP.out (by rw [hq2]; exact b2)
  have TR2 := five_below HTR.out (by rw [hq2]; exact b2)
  have F12 := fullR_below HF1.out (by rw [hq2]; exact b2)
  have l2 := lt_of_block F2
  obtain ⟨z0, z1, z2, z3, z4, zf⟩ := five_cells TP2
  have f1 := zf 2
  have CH2 := one_ch w2 n0 2 (.slice (some ⟨q2, 0, none⟩) G.mourned.length G.mourned.length)
  have HTP2 : Hid _ := five_set2 TP2 (.slice (some ⟨q2, 0, none⟩) G.mourned.length G.mourned.length)
  have HTR2 : Hid _ := five_ch TR2 CH2 (by simp)
  have HF12 : Hid _ := fullR_ch F12 CH2 (by simp; omega)
  have HF2 : Hid _ := fullR_ch F2 CH2 (by simp; omega)
  have HB2 : Hid _ := B2.setCell (p := ⟨n0, 2, none⟩) (Nat.le_refl _) (.slice (some ⟨q2, 0, none⟩) G.mourned.length G.mourned.length)
  have hZ : q2 < (w2.setCell ⟨n0, 2, none⟩ (.slice (some ⟨q2, 0, none⟩) G.mourned.length G.mourned.length)).heap.size := by simpa using l2
  clear HTP HTR HF1 HB1 b2 F2 B2 TP2 TR2 F12 CH2 zf l2
  go_wp2_with fail
  have C3 := copiedO_any (orowAt_below HO.out.1 (HBW.out HB2.out)) HSL.out HSZ.out.1
  generalize (w2.setCell ⟨n0, 2, none⟩ (.slice (some ⟨q2, 0, none⟩) G.mourned.length G.mourned.length)) = Z at *
  refine C3.mono ?_
  rintro e w3 ⟨rfl, F3, b3⟩
  clear C3 z0 z1 z2 z3 z4 f1
  generalize hq3 : Z.heap.size = q3 at *
  have B3 := HB2.out.trans (b3.mono (by omega))
  have TP3 := five_below HTP2.out (by rw [hq3]; exact b3)
  have TR3 := five_below HTR2.out (by rw [hq3]; exact b3)
  have F13 := fullR_below HF12.out (by rw [hq3]; exact b3)
  have F23 := fullR_below HF2.out (by rw [hq3]; exact b3)
  have l3 := lt_of_block F3
  obtain ⟨z0, z1, z2, z3, z4, zf⟩ := five_cells TP3
  have f1 := zf 0
  have CH3 := one_ch w3 n0 0 (.slice (some ⟨q3, 0, none⟩) ms.length ms.length)
  have hS : q3 < (w3.setCell ⟨n0, 0, none⟩ (.slice (some ⟨q3, 0, none⟩) ms.length ms.length)).heap.size := by simpa using l3
  have HCG : Hid (CG w n0 n0 (n0 + 1) q1 q2 q3 ms G 0 ms (w3.setCell ⟨n0, 0, none⟩ (.slice (some ⟨q3, 0, none⟩) ms.length ms.length))) := by
    refine ⟨rfl, rfl, ?_, fun i hi => by omega, fun i _ _ => rfl, ?_, ?_, five_set0 TP3 _, five_ch TR3 CH3 (by simp), fullR_ch F13 CH3 (by simp; omega), fullR_ch F23 CH3 (by simp; omega), B3.setCell (p := ⟨n0, 0, none⟩) (Nat.le_refl _) _⟩
    · exact (CH3.block q3 l3 (by simp; omega)).trans F3
    · simp [blks]; omega
    · intro x hx
      simp [blks] at hx
      omega
  clear HTP2 HTR2 HF12 HF2 HB2 b3 F3 B3 TP3 TR3 F13 F23 CH3 zf l3
  go_wp2_with fail
  generalize (w3.setCell ⟨n0, 0, none⟩ (.slice (some ⟨q3, 0, none⟩) ms.length ms.length)) = S0 at *
  clear z0 z1 z2 z3 z4 f1 hq1 hq2 hq3
  go_loopw [19] (fun p wr => ∃ (k : Nat) (ns : List MO), k ≤ ms.length ∧ p = .int .i64 k ∧ Hid (CG w n0 n0 (n0 + 1) q1 q2 q3 ms G k ns wr) ∧ q3 < wr.heap.size) (fun p _ => ms.length - (intOf p).toNat)
  case atStart => exact ⟨0, ms, Nat.zero_le _, rfl, HCG, hS⟩
  case round =>
    obtain ⟨k, ns, hk, rfl, HK, hq⟩ := hrel
    clear HCG hS
    have y0 := (five_cells HK.out.gr).1
    by_cases hlt : k < ms.length
    · have hx := HK.out.rest k (Nat.le_refl _) hlt
      obtain ⟨_, _, _, _, d4⟩ := fullO_cell HK.out.full (i := k) (by rw [HK.out.len]; exact hlt)
      rw [hx] at d4
      have RA := refsAt_below (HO.out.2 _ (mem_getD hlt)) (HBW.out HK.out.bel)
      have CR := copiedR_any (w := wr.drew) (refsAt_drewN (n := 1) RA) (HSS.out _ (mem_getD hlt))
      have HST : Hid (∀ w2, Below wr.heap.size wr w2 → FullR w2 wr.heap.size (ms.getD k moD).slots → _) := fun w2 hb hF => HK.out.step hlt (by omega) (Nat.le_trans (HSS.out _ (mem_getD hlt)) hmx) hb hF
      obtain ⟨sa, sn, sc, hsv⟩ := refs_slice RA
      rw [hsv] at d4 CR
      have hfz : ∀ w2, Below wr.heap.size wr w2 → w2.frozen? ⟨q3, k * 5 + 4, none⟩ = false := fun w2 hb => fullO_frozen (fullO_below HK.out.full hb) _
      have HFZ : Hid _ := hfz
      clear RA hx hsv hfz HK
      generalize (ms.getD k moD).slots = xs at *
      go_wp2_with fail
      go_region_law (go_simp; go_at_call 101; refine CR.mono ?_; rintro e w2 ⟨rfl, F2, b2⟩; have b2' : Below wr.heap.size wr w2 := ⟨b2.os, b2.tape, b2.output, b2.size, b2.block⟩; have p0 := (b2'.cell (p := ⟨n0, 0, none⟩) (by show n0 < _; omega)).trans y0; have p4 := (b2'.cell (p := ⟨q3, k * 5 + 4, none⟩) hq).trans d4; have pf := HFZ.out w2 b2'; have HSX : Hid _ := HST.out w2 b2' F2; have sz2 := b2'.size; clear F2 b2 b2')
      all_goals go_wp2
      all_goals (obtain ⟨ns', hN⟩ := HSX.out)
      all_goals exact ⟨⟨k + 1, ns', by omega, by go_num, hN, by simp; omega⟩, by simp [intOf]; omega⟩
    · have e : k = ms.length := by omega
      subst e
      have OW := HK.out.done HEA.out (by omega) (by omega) (by omega)
      have TPX := HK.out.gr
      have TRX := HK.out.res
      have BX := HK.out.bel
      have hR : n0 + 1 ∉ gblk (.slice (some ⟨q3, 0, none⟩) ms.length ms.length) (.slice (some ⟨q1, 0, none⟩) G.roots.length G.roots.length) (.slice (some ⟨q2, 0, none⟩) G.mourned.length G.mourned.length) ns := by
        have nd := HK.out.nd
        rw [← HK.out.len, List.take_length] at nd
        simp only [List.cons_append, List.nil_append, List.nodup_cons, List.mem_cons, not_or] at nd
        obtain ⟨_, ⟨r1, r2, r3, r4⟩, _⟩ := nd
        simp only [gblk, blk_some, List.mem_append, List.mem_singleton, not_or]
        exact ⟨⟨⟨r3, r4⟩, r1⟩, r2⟩
      obtain ⟨z0, z1, z2, z3, z4, _⟩ := five_cells TPX
      obtain ⟨v0, v1, v2, v3, v4, vf⟩ := five_cells TRX
      have g0 := vf 0
      have g1 := vf 1
      have g2 := vf 2
      have g3 := vf 3
      have g4 := vf 4
      have HOW : Hid _ := ownG_ch OW (five_other (X := wr) (b := n0 + 1) (.slice (some ⟨q3, 0, none⟩) ms.length ms.length) (.slice (some ⟨q1, 0, none⟩) G.roots.length G.roots.length) (.slice (some ⟨q2, 0, none⟩) G.mourned.length G.mourned.length) (.int .i64 G.next) (.int .i64 G.seed)) (fun x hx e => hR ((List.mem_singleton.1 e) ▸ hx))
      have HTX : Hid _ := five_sets TRX (.slice (some ⟨q3, 0, none⟩) ms.length ms.length) (.slice (some ⟨q1, 0, none⟩) G.roots.length G.roots.length) (.slice (some ⟨q2, 0, none⟩) G.mourned.length G.mourned.length) (.int .i64 G.next) (.int .i64 G.seed)
      have HBX : Hid _ := five_belows BX (show n0 ≤ n0 + 1 by omega) (.slice (some ⟨q3, 0, none⟩) ms.length ms.length) (.slice (some ⟨q1, 0, none⟩) G.roots.length G.roots.length) (.slice (some ⟨q2, 0, none⟩) G.mourned.length G.mourned.length) (.int .i64 G.next) (.int .i64 G.seed)
      clear vf OW TPX TRX BX hR HK y0 HO HR HM HSL HSS HEA HSZ HBW
      go_wp2
      exact bodyPost_ret (res_gr rfl rfl HTX.out) rfl ⟨_, _, _, ns, rfl, HOW.out, HBX.out⟩
end Go.Proofs.Ytfajnnibkcnkaal.gr
namespace Go.Proofs.Ytfajnnibkcnkaal.heads
open Go.RowKit
set_option maxRecDepth 100000

/-- Is this the head of an object with slots of its own? -/
def fok (s f c g : Int) (p m : Bool) : Bool := decide (f ≤ 2) && hok s f c g p m

set_option maxHeartbeats 1000000 in
theorem objectHeadOk_any (s f c g : Int) (p m : Bool) (w : World) :
    Calls Try.prog 92 #[hv s f c g p m] w fun e w' => e = .returned (.bool (fok s f c g p m)) ∧ Below w.heap.size w w' := by
  have B0 : Below w.heap.size w (w.alloc (hb s f c g p m)) := (Below.refl _ w).alloc (Nat.le_refl _) _
  have B1 : Below w.heap.size w ((w.alloc (hb s f c g p m)).alloc (hb s f c g p m)) := ((Below.refl _ w).alloc (Nat.le_refl _) _).alloc (by simp) _
  have HO := headOk_any s f c g p m
  have HB0 : Hid _ := B0
  have HB1 : Hid _ := B1
  clear B0 B1
  unfold fok
  generalize hok s f c g p m = o at *
  go_enter Try.func92, Try.ntmps92
  by_cases hf : f ≤ 2
  · go_wp2_with (go_at_call 112; refine (HO _).mono ?_; rintro e w1 ⟨rfl, rfl⟩)
    go_ret
    exact ⟨by simp [hf], HB1⟩
  · clear HO
    go_wp2
    go_ret
    exact ⟨by simp; intro h; omega, HB0⟩
end Go.Proofs.Ytfajnnibkcnkaal.heads
namespace Go.Proofs.Ytfajnnibkcnkaal.gr
open Go.RowKit rows heads
set_option maxRecDepth 100000

/-- The Ids rise. -/
def Rise (os : List Ob) : Prop := ∀ i j, i < j → j < os.length → (os.getD i obD).id < (os.getD j obD).id
/-- Where a search ends. -/
def Ends (os : List Ob) (id : Int) (i : Nat) : Prop := i ≤ os.length ∧ (∀ t, t < i → (os.getD t obD).id < id) ∧ ∀ t, i ≤ t → t < os.length → id ≤ (os.getD t obD).id
theorem ends_no {os : List Ob} {id : Int} {i : Nat} (hr : Rise os) (h : Ends os id i) (hn : ¬ (i < os.length ∧ (os.getD i obD).id = id)) : atI os id = -1 := by
  refine atI_no fun m hm e => ?_
  rcases Nat.lt_trichotomy m i with h1 | h1 | h1
  · have := h.2.1 m h1; omega
  · subst h1; exact hn ⟨hm, e⟩
  · have h2 := h.2.2 i (Nat.le_refl _) (by omega)
    have h3 := hr i m h1 hm
    omega
theorem ends_yes {os : List Ob} {id : Int} {i : Nat} (h : Ends os id i) (hy : i < os.length ∧ (os.getD i obD).id = id) : atI os id = i :=
  atI_at hy.1 hy.2 fun m hm e => by have := h.2.1 m hm; omega
theorem ends_is {os : List Ob} {id : Int} {i : Nat} (hr : Rise os) (h : Ends os id i) : (decide (i < os.length) && decide ((os.getD i obD).id = id)) = decide (0 ≤ atI os id) := by
  by_cases hy : i < os.length ∧ (os.getD i obD).id = id
  · rw [ends_yes h hy, decide_eq_true hy.1, decide_eq_true hy.2]
    simp
  · rw [ends_no hr h hy]
    rw [Bool.eq_iff_iff]
    simp only [Bool.and_eq_true, decide_eq_true_eq]
    exact ⟨fun e => absurd e hy, fun e => by omega⟩
theorem ends_place {os : List Ob} {id : Int} {i : Nat} (hr : Rise os) (h : Ends os id i) (hp : 0 ≤ atI os id) : atI os id = i ∧ i < os.length := by
  by_cases hy : i < os.length ∧ (os.getD i obD).id = id
  · exact ⟨ends_yes h hy, hy.1⟩
  · have := ends_no hr h hy
    omega

def idsB (os : List Ob) (next : Int) : Bool := (List.range os.length).all fun i => decide (lastOf os i < (os.getD i obD).id) && decide ((os.getD i obD).id < next)
def objB (os : List Ob) (i : Nat) : Bool := fok ((os.getD i obD).slots.length : Int) (os.getD i obD).fmt (os.getD i obD).cls (os.getD i obD).hash false false && slOk os i
def objsB (os : List Ob) : Bool := (List.range os.length).all (objB os)
def refsB (os : List Ob) (l : List Rf) : Bool := (List.range l.length).all fun i => refOk os (l.getD i refD)
def leadB (l : List Rf) : Bool := (List.range l.length).all fun i => (l.getD i refD).1 == 2
def rootsB (G : Gr) : Bool := decide (G.roots.length = 6) && decide (G.mourned.length ≤ 40) && (leadB G.mourned && (refsB G.objs G.roots && refsB G.objs G.mourned))
def pG (G : Gr) : Bool := (inR 1 100000 G.next && inR 0 65535 G.seed && decide (G.objs.length ≤ 200)) && (idsB G.objs G.next && (objsB G.objs && rootsB G))
theorem rangeAll_yes {n : Nat} {p : Nat → Bool} (h : ∀ i, i < n → p i = true) : (List.range n).all p = true := by
  rw [List.all_eq_true]
  intro i hi
  exact h i (List.mem_range.1 hi)
theorem rangeAll_at {n : Nat} {p : Nat → Bool} (h : (List.range n).all p = true) {i : Nat} (hi : i < n) : p i = true := List.all_eq_true.1 h i (List.mem_range.2 hi)
theorem rangeAll_not {n : Nat} {p : Nat → Bool} {i : Nat} (hi : i < n) (h : p i = false) : (List.range n).all p = false := by
  cases e : (List.range n).all p
  · rfl
  · rw [rangeAll_at e hi] at h; cases h
theorem rise_of {os : List Ob} {next : Int} (h : idsB os next = true) : Rise os := by
  have h1 : ∀ i, i < os.length → lastOf os i < (os.getD i obD).id := fun i hi => by
    have := rangeAll_at h hi
    simp only [Bool.and_eq_true, decide_eq_true_eq] at this
    exact this.1
  intro i j hij hj
  induction j with
  | zero => omega
  | succ j ih =>
    have h2 := h1 (j + 1) hj
    rcases Nat.lt_or_ge i j with h3 | h3
    · have := ih h3 (by omega)
      have h4 : lastOf os (j + 1) = (os.getD j obD).id := rfl
      omega
    · have e : i = j := by omega
      subst e
      exact h2
theorem pG_gOk (G : Gr) : pG G = gOk G := by
  rw [Bool.eq_iff_iff]
  constructor
  · intro h
    simp only [pG, rootsB, idsB, objsB, refsB, leadB, Bool.and_eq_true, decide_eq_true_eq] at h
    obtain ⟨⟨⟨a1, a2⟩, a3⟩, b1, b2, ⟨c1, c2⟩, c3, c4, c5⟩ := h
    refine gOk_yes ?_ (fun i hi => ?_) (fun i hi => ?_) (fun i hi => ?_)
    · simp only [gHead, Bool.and_eq_true, decide_eq_true_eq]
      exact ⟨⟨⟨⟨a3, c1⟩, c2⟩, a1⟩, a2⟩
    · have d1 := rangeAll_at b1 hi
      have d2 := rangeAll_at b2 hi
      simp only [objB, fok, Bool.and_eq_true, decide_eq_true_eq] at d1 d2
      simp only [obOk, Bool.and_eq_true, decide_eq_true_eq]
      exact ⟨⟨⟨⟨d1.1, d1.2⟩, d2.1.1⟩, d2.1.2⟩, d2.2⟩
    · exact rangeAll_at c4 (by omega)
    · rw [Bool.and_eq_true]
      exact ⟨rangeAll_at c3 hi, rangeAll_at c5 hi⟩
  · intro h
    simp only [gOk, gHead, Bool.and_eq_true, decide_eq_true_eq] at h
    obtain ⟨⟨⟨⟨⟨⟨⟨a1, a2⟩, a3⟩, a4⟩, a5⟩, b⟩, c⟩, d⟩ := h
    simp only [pG, rootsB, idsB, objsB, refsB, leadB, Bool.and_eq_true, decide_eq_true_eq]
    have hb : ∀ i, i < G.objs.length → _ := fun i hi => by
      have := rangeAll_at b hi
      simp only [obOk, Bool.and_eq_true, decide_eq_true_eq] at this
      exact this
    have hd : ∀ i, i < G.mourned.length → _ := fun i hi => by
      have := rangeAll_at d hi
      rw [Bool.and_eq_true] at this
      exact this
    refine ⟨⟨⟨a4, a5⟩, a1⟩, rangeAll_yes fun i hi => ?_, rangeAll_yes fun i hi => ?_, ⟨a2, a3⟩, rangeAll_yes fun i hi => (hd i hi).1, rangeAll_yes fun i hi => rangeAll_at c (by omega), rangeAll_yes fun i hi => (hd i hi).2⟩
    · rw [Bool.and_eq_true, decide_eq_true_eq, decide_eq_true_eq]
      exact ⟨(hb i hi).1.1.1.1, (hb i hi).1.1.1.2⟩
    · simp only [objB, fok, Bool.and_eq_true, decide_eq_true_eq]
      exact ⟨⟨(hb i hi).1.1.2, (hb i hi).1.2⟩, (hb i hi).2⟩
/-- Of a right graph the Ids rise. -/
theorem gOk_rise {G : Gr} (h : gOk G = true) : Rise G.objs := by
  rw [← pG_gOk] at h
  simp only [pG, Bool.and_eq_true] at h
  exact rise_of h.2.1
end Go.Proofs.Ytfajnnibkcnkaal.gr
namespace Go.Proofs.Ytfajnnibkcnkaal.gr
open Go.RowKit rows heads
set_option maxRecDepth 100000

theorem intInRange_any (n : Int) (w : World) :
    Calls Try.prog 134 #[.int .i64 n] w fun e w' => e = .returned (.bool (inR (-100000) 100000 n)) ∧ w' = w := by
  unfold inR
  by_cases h1 : (-100000 : Int) ≤ n
  · by_cases h2 : n ≤ 100000
    · go_enter Try.func134, Try.ntmps134
      go_wp2
      go_ret
      exact ⟨by simp; omega, rfl⟩
    · go_enter Try.func134, Try.ntmps134
      go_wp2
      go_ret
      exact ⟨by simp; omega, rfl⟩
  · go_enter Try.func134, Try.ntmps134
    go_wp2
    go_ret
    exact ⟨by simp; omega, rfl⟩

/-- What a ref says, as a value. -/
def shv (r : Rf) : Value := if r.1 = 0 ∧ r.2 = 0 then .iface 154 (.agg #[]) else if (r.1 == 1 && inR (-100000) 100000 r.2) = true then .iface 156 (.agg #[.int .i64 r.2]) else if r.1 = 2 then .iface 132 (.agg #[.int .i64 r.2]) else .nilIface
set_option maxHeartbeats 1000000 in
theorem shapeOf_any (r : Rf) (w : World) :
    Calls Try.prog 114 #[rv r] w fun e w' => e = .returned (shv r) ∧ Below w.heap.size w w' := by
  obtain ⟨k, n⟩ := r
  have B : Below w.heap.size w (w.alloc (rb (k, n))) := (Below.refl _ w).alloc (Nat.le_refl _) _
  have HB : Hid _ := B
  clear B
  have I := intInRange_any n
  by_cases k0 : k = 0
  · subst k0
    by_cases n0 : n = 0
    · subst n0
      clear I
      go_enter Try.func114, Try.ntmps114
      go_wp2
      go_ret
      exact ⟨by simp [shv], HB⟩
    · have n0' : (n == 0) = false := by simpa using n0
      clear I
      go_enter Try.func114, Try.ntmps114
      go_wp2
      go_ret
      exact ⟨by simp [shv, n0], HB⟩
  · have k0' : (k == 0) = false := by simpa using k0
    by_cases k1 : k = 1
    · subst k1
      have es : shv (1, n) = if inR (-100000) 100000 n = true then .iface 156 (.agg #[.int .i64 n]) else .nilIface := by simp [shv]
      rw [es]
      cases d : inR (-100000) 100000 n
      · rw [d] at I
        go_enter Try.func114, Try.ntmps114
        go_wp2_with (go_at_call 134; refine (I _).mono ?_; rintro e w1 ⟨rfl, rfl⟩)
        go_ret
        exact ⟨by simp, HB⟩
      · rw [d] at I
        go_enter Try.func114, Try.ntmps114
        go_wp2_with (go_at_call 134; refine (I _).mono ?_; rintro e w1 ⟨rfl, rfl⟩)
        go_ret
        exact ⟨by simp, HB⟩
    · have k1' : (k == 1) = false := by simpa using k1
      clear I
      by_cases k2 : k = 2
      · subst k2
        go_enter Try.func114, Try.ntmps114
        go_wp2
        go_ret
        exact ⟨by simp [shv], HB⟩
      · have k2' : (k == 2) = false := by simpa using k2
        go_enter Try.func114, Try.ntmps114
        go_wp2
        go_ret
        exact ⟨by simp [shv, k0, k1, k2], HB⟩

/-- The four shapes. -/
theorem shv_cases (r : Rf) : (r = (0, 0) ∧ shv r = .iface 154 (.agg #[])) ∨ (r.1 = 1 ∧ inR (-100000) 100000 r.2 = true ∧ shv r = .iface 156 (.agg #[.int .i64 r.2])) ∨ (r.1 = 2 ∧ shv r = .iface 132 (.agg #[.int .i64 r.2])) ∨ (¬ r.1 = 2 ∧ ¬ (r.1 = 0 ∧ r.2 = 0) ∧ ¬ (r.1 = 1 ∧ inR (-100000) 100000 r.2 = true) ∧ shv r = .nilIface) := by
  obtain ⟨k, n⟩ := r
  unfold shv
  by_cases h0 : k = 0 ∧ n = 0
  · exact .inl ⟨by rw [h0.1, h0.2], by simp [h0]⟩
  · by_cases h1 : k = 1 ∧ inR (-100000) 100000 n = true
    · exact .inr (.inl ⟨h1.1, h1.2, by simp [h1.1, h1.2]⟩)
    · by_cases h2 : k = 2
      · exact .inr (.inr (.inl ⟨h2, by simp [h2]⟩))
      · refine .inr (.inr (.inr ⟨h2, h0, h1, ?_⟩))
        have h1' : (k == 1 && inR (-100000) 100000 n) = false := by
          cases e : (k == 1 && inR (-100000) 100000 n)
          · rfl
          · simp only [Bool.and_eq_true, beq_iff_eq] at e; exact absurd e h1
        simp only [h0, h1', h2, if_false]
        simp

theorem as_nothing_nothing (v : Value) (w : World) : (Instr.typeAssert (.iface 154 v) 135 154 true).run Try.prog w = .ok (.tuple #[v, .bool true]) w := by kernel_rfl
theorem as_number_nothing (v : Value) (w : World) : (Instr.typeAssert (.iface 156 v) 135 154 true).run Try.prog w = .ok (.tuple #[.agg #[], .bool false]) w := by kernel_rfl
theorem as_leading_nothing (v : Value) (w : World) : (Instr.typeAssert (.iface 132 v) 135 154 true).run Try.prog w = .ok (.tuple #[.agg #[], .bool false]) w := by kernel_rfl
theorem as_nil_nothing (w : World) : (Instr.typeAssert .nilIface 135 154 true).run Try.prog w = .ok (.tuple #[.agg #[], .bool false]) w := by kernel_rfl
theorem as_nothing_number (v : Value) (w : World) : (Instr.typeAssert (.iface 154 v) 135 156 true).run Try.prog w = .ok (.tuple #[.agg #[.int .i64 0], .bool false]) w := by kernel_rfl
theorem as_number_number (v : Value) (w : World) : (Instr.typeAssert (.iface 156 v) 135 156 true).run Try.prog w = .ok (.tuple #[v, .bool true]) w := by kernel_rfl
theorem as_leading_number (v : Value) (w : World) : (Instr.typeAssert (.iface 132 v) 135 156 true).run Try.prog w = .ok (.tuple #[.agg #[.int .i64 0], .bool false]) w := by kernel_rfl
theorem as_nil_number (w : World) : (Instr.typeAssert .nilIface 135 156 true).run Try.prog w = .ok (.tuple #[.agg #[.int .i64 0], .bool false]) w := by kernel_rfl
theorem as_nothing_leading (v : Value) (w : World) : (Instr.typeAssert (.iface 154 v) 135 132 true).run Try.prog w = .ok (.tuple #[.agg #[.int .i64 0], .bool false]) w := by kernel_rfl
theorem as_number_leading (v : Value) (w : World) : (Instr.typeAssert (.iface 156 v) 135 132 true).run Try.prog w = .ok (.tuple #[.agg #[.int .i64 0], .bool false]) w := by kernel_rfl
theorem as_leading_leading (v : Value) (w : World) : (Instr.typeAssert (.iface 132 v) 135 132 true).run Try.prog w = .ok (.tuple #[v, .bool true]) w := by kernel_rfl
theorem as_nil_leading (w : World) : (Instr.typeAssert .nilIface 135 132 true).run Try.prog w = .ok (.tuple #[.agg #[.int .i64 0], .bool false]) w := by kernel_rfl
set_option maxHeartbeats 1000000 in
theorem leadsTo_any (r : Rf) (w : World) :
    Calls Try.prog 96 #[rv r] w fun e w' => e = .returned (.tuple #[.int .i64 (if r.1 = 2 then r.2 else 0), .bool (r.1 == 2)]) ∧ Below w.heap.size w w' := by
  have S := shapeOf_any r (w.alloc (rb r))
  have C := shv_cases r
  obtain ⟨k, n⟩ := r
  have B : Below w.heap.size w (w.alloc (rb (k, n))) := (Below.refl _ w).alloc (Nat.le_refl _) _
  have hsz : w.heap.size ≤ (w.alloc (rb (k, n))).heap.size := B.size
  have HB : Hid _ := B
  clear B
  generalize hs : shv (k, n) = sv at *
  clear hs
  go_enter Try.func96, Try.ntmps96
  go_wp2_with fail
  refine S.mono ?_
  rintro e w1 ⟨rfl, b1⟩
  have B1 := HB.out.trans (b1.mono hsz)
  have sz1 := B1.size
  have HB1 : Hid _ := B1
  clear S HB b1 B1
  rcases C with ⟨c, rfl⟩ | ⟨c, _, rfl⟩ | ⟨c, rfl⟩ | ⟨c, _, _, rfl⟩
  · injection c with c1 c2
    subst c1 c2
    have a1 := as_nothing_leading
    go_wp2
    refine bodyPost_ret (v := .tuple #[.int .i64 0, .bool false]) (by simp [results, Try.results96, go_sem]) rfl ⟨rfl, ?_⟩
    exact HB1.out.alloc sz1 _
  · subst c
    have a1 := as_number_leading
    go_wp2
    refine bodyPost_ret (v := .tuple #[.int .i64 0, .bool false]) (by simp [results, Try.results96, go_sem]) rfl ⟨rfl, ?_⟩
    exact HB1.out.alloc sz1 _
  · subst c
    have a1 := as_leading_leading
    go_wp2
    refine bodyPost_ret (v := .tuple #[.int .i64 n, .bool true]) (by simp [results, Try.results96, go_sem]) rfl ⟨rfl, ?_⟩
    exact HB1.out.alloc sz1 _
  · have c' : (k == 2) = false := by simpa using c
    have a1 := as_nil_leading
    go_wp2
    refine bodyPost_ret (v := .tuple #[.int .i64 0, .bool false]) (by simp [results, Try.results96, go_sem]) rfl ⟨by simp, ?_⟩
    exact HB1.out.alloc sz1 _
end Go.Proofs.Ytfajnnibkcnkaal.gr
namespace Go.Proofs.Ytfajnnibkcnkaal.gr
open Go.RowKit rows heads
set_option maxRecDepth 100000

def cmpI (x y : Int) : Int := if x < y then -1 else if y < x then 1 else 0
theorem isNaN_any (x : Int) (w : World) : Calls Try.prog 100 #[.int .i64 x] w fun e w' => e = .returned (.bool false) ∧ w' = w := by
  have hx : (x != x) = false := by simp
  go_enter Try.func100, Try.ntmps100
  go_wp2
  go_ret
  exact ⟨by simp, rfl⟩
theorem compare_any (x y : Int) (w : World) : Calls Try.prog 78 #[.int .i64 x, .int .i64 y] w fun e w' => e = .returned (.int .i64 (cmpI x y)) ∧ w' = w := by
  generalize hc : cmpI x y = cc
  by_cases h1 : x < y
  · have EC : Hid (cc = -1) := by show _ = _; rw [← hc]; unfold cmpI; rw [if_pos h1]
    clear hc
    go_enter Try.func78, Try.ntmps78
    go_wp2_with (go_at_call 100; refine (isNaN_any _ _).mono ?_; rintro e w1 ⟨rfl, rfl⟩)
    go_ret
    exact ⟨by rw [EC.out]; rfl, rfl⟩
  · by_cases h2 : y < x
    · have EC : Hid (cc = 1) := by show _ = _; rw [← hc]; unfold cmpI; rw [if_neg h1, if_pos h2]
      clear hc
      go_enter Try.func78, Try.ntmps78
      go_wp2_with (go_at_call 100; refine (isNaN_any _ _).mono ?_; rintro e w1 ⟨rfl, rfl⟩)
      go_ret
      exact ⟨by rw [EC.out]; rfl, rfl⟩
    · have EC : Hid (cc = 0) := by show _ = _; rw [← hc]; unfold cmpI; rw [if_neg h1, if_neg h2]
      clear hc
      go_enter Try.func78, Try.ntmps78
      go_wp2_with (go_at_call 100; refine (isNaN_any _ _).mono ?_; rintro e w1 ⟨rfl, rfl⟩)
      go_ret
      exact ⟨by rw [EC.out]; rfl, rfl⟩
theorem atId_any (m : MO) (hs : ∃ a n c, m.sv = .slice a n c) (id : Int) (w : World) : Calls Try.prog 116 #[ov m, .int .i64 id] w fun e w' => e = .returned (.int .i64 (cmpI m.id id)) ∧ Below w.heap.size w w' := by
  obtain ⟨i, c, f, g, sv, sl⟩ := m
  obtain ⟨a, n, cp, hs⟩ := hs
  simp only at hs
  subst hs
  have B : Below w.heap.size w (w.alloc (ob ⟨i, c, f, g, .slice a n cp, sl⟩)) := (Below.refl _ w).alloc (Nat.le_refl _) _
  have HB : Hid _ := B
  clear B
  have C := fun w => compare_any i id w
  generalize hc : cmpI i id = cc at *
  clear hc
  go_enter Try.func116, Try.ntmps116
  go_wp2_with (go_at_call 78; refine (C _).mono ?_; rintro e w1 ⟨rfl, rfl⟩)
  go_ret
  exact ⟨rfl, HB⟩

/-- Where a search among these objects ends. -/
def EndsM (ms : List MO) (id : Int) (i : Nat) : Prop := i ≤ ms.length ∧ (∀ t, t < i → (ms.getD t moD).id < id) ∧ ∀ t, i ≤ t → t < ms.length → id ≤ (ms.getD t moD).id
def RiseM (ms : List MO) : Prop := ∀ i j, i < j → j < ms.length → (ms.getD i moD).id < (ms.getD j moD).id
set_option maxHeartbeats 4000000 in
theorem binSearch_any {w : World} {v : Value} {ms : List MO} (h : OrowAt w v ms) (hsl : Slices ms) (hr : RiseM ms) (hl : ms.length ≤ 1048576) (id : Int) :
    Calls Try.prog 115 #[v, .int .i64 id, .func (.func 116) #[] #[]] w fun e w' => ∃ i : Nat, EndsM ms id i ∧ e = .returned (.tuple #[.int .i64 i, .bool (decide (i < ms.length) && decide ((ms.getD i moD).id = id))]) ∧ Below w.heap.size w w' := by
  obtain ⟨a, cap, rfl, hlc, hcm, _, hc⟩ := h
  have hcm' : cap ≤ 9223372036854775807 := hcm
  have HC : Hid _ := hc
  have HR : Hid _ := hr
  have HS : Hid _ := hsl
  clear hc hr hsl
  go_enter Try.func115, Try.ntmps115
  go_wp2_with fail
  go_loopw [9, 10] (fun p q wr => ∃ lo hi : Nat, p = .int .i64 lo ∧ q = .int .i64 hi ∧ lo ≤ hi ∧ hi ≤ ms.length ∧ (∀ t, t < lo → (ms.getD t moD).id < id) ∧ (∀ t, hi ≤ t → t < ms.length → id ≤ (ms.getD t moD).id) ∧ Below w.heap.size w wr) (fun p q _ => (intOf q).toNat - (intOf p).toNat)
  case atStart => exact ⟨0, ms.length, rfl, rfl, Nat.zero_le _, Nat.le_refl _, fun t ht => by omega, fun t h1 h2 => by omega, Below.refl _ _⟩
  case round =>
    obtain ⟨lo, hi, rfl, rfl, hlh, hhn, hlo, hhi, hB⟩ := hrel
    have HLO : Hid _ := hlo
    have HHI : Hid _ := hhi
    have HB : Hid _ := hB
    clear hlo hhi hB
    by_cases hlt : lo < hi
    · have hm1 : lo ≤ (lo + hi) / 2 ∧ (lo + hi) / 2 < hi := by omega
      have ediv : ((lo : Int) + (hi : Int)).fdiv (2 ^ min (Int.toNat 1) IntKind.u64.bits) = ((lo : Int) + (hi : Int)) / 2 := by
        rw [show (2 : Int) ^ min (Int.toNat 1) IntKind.u64.bits = 2 by decide, Int.fdiv_eq_ediv_of_nonneg _ (by decide)]
      obtain ⟨b, off, rfl, hb, hcc⟩ := HC.out (by omega)
      obtain ⟨x0, x1, x2, x3, x4⟩ := hcc ((lo + hi) / 2) (by omega)
      have c0 := (HB.out.cell (p := ⟨b, off + ((lo + hi) / 2) * 5, none⟩) hb).trans x0
      have c1 := (HB.out.cell (p := ⟨b, off + ((lo + hi) / 2) * 5 + 1, none⟩) hb).trans x1
      have c2 := (HB.out.cell (p := ⟨b, off + ((lo + hi) / 2) * 5 + 2, none⟩) hb).trans x2
      have c3 := (HB.out.cell (p := ⟨b, off + ((lo + hi) / 2) * 5 + 3, none⟩) hb).trans x3
      have c4 := (HB.out.cell (p := ⟨b, off + ((lo + hi) / 2) * 5 + 4, none⟩) hb).trans x4
      have A := atId_any (ms.getD ((lo + hi) / 2) moD) (HS.out _ (mem_getD (by omega))) id wr
      obtain ⟨sa, sn, sc, hsv⟩ := HS.out _ (mem_getD (show ((lo + hi) / 2) < ms.length by omega))
      have HUP : Hid ((ms.getD ((lo + hi) / 2) moD).id < id → ∀ t, t < ((lo + hi) / 2) + 1 → (ms.getD t moD).id < id) := fun e t ht => by
        by_cases e' : t = ((lo + hi) / 2)
        · rw [e']; exact e
        · have := HR.out t ((lo + hi) / 2) (by omega) (by omega)
          omega
      have HDN : Hid (¬ (ms.getD ((lo + hi) / 2) moD).id < id → ∀ t, ((lo + hi) / 2) ≤ t → t < ms.length → id ≤ (ms.getD t moD).id) := fun e t h1 h2 => by
        by_cases e' : t = ((lo + hi) / 2)
        · rw [e']; omega
        · have := HR.out ((lo + hi) / 2) t (by omega) h2
          omega
      clear hcc HC HS HR x0 x1 x2 x3 x4
      generalize ms.getD ((lo + hi) / 2) moD = x at *
      obtain ⟨xi, xc, xf, xh, xv, xs⟩ := x
      simp only at hsv HUP HDN
      subst hsv
      simp only [ov] at A
      have hcut : cmpI xi id < 0 ↔ xi < id := by unfold cmpI; split <;> (try split) <;> omega
      have HB0 : Hid _ := HB.out
      have szr := HB.out.size
      by_cases hx : xi < id
      · have hneg := hcut.2 hx
        have HUP2 : Hid _ := HUP.out hx
        generalize cmpI xi id = cc at *
        clear HUP HDN HLO hx hcut
        go_wp2_with (go_at_call 116; refine A.mono ?_; rintro e w1 ⟨rfl, b1⟩; have HB1 : Hid _ := HB0.out.trans (b1.mono szr); clear b1 A HB0 HB)
        exact ⟨⟨((lo + hi) / 2) + 1, hi, by go_num, rfl, by omega, hhn, HUP2, HHI, HB1⟩, by simp [intOf]; omega⟩
      · have hneg : ¬ cmpI xi id < 0 := fun e => hx (hcut.1 e)
        have HDN2 : Hid _ := HDN.out hx
        generalize cmpI xi id = cc at *
        clear HUP HDN HHI hx hcut
        go_wp2_with (go_at_call 116; refine A.mono ?_; rintro e w1 ⟨rfl, b1⟩; have HB1 : Hid _ := HB0.out.trans (b1.mono szr); clear b1 A HB0 HB)
        exact ⟨⟨lo, ((lo + hi) / 2), rfl, by go_num, by omega, by omega, HLO, HDN2, HB1⟩, by simp [intOf]; omega⟩
    · have e : hi = lo := by omega
      subst e
      have HE : Hid (EndsM ms id hi) := ⟨hhn, HLO.out, HHI.out⟩
      clear HLO HHI HR
      by_cases hn : hi < ms.length
      · obtain ⟨b, off, rfl, hb, hcc⟩ := HC.out (by omega)
        obtain ⟨x0, x1, x2, x3, x4⟩ := hcc hi (by omega)
        have c0 := (HB.out.cell (p := ⟨b, off + hi * 5, none⟩) hb).trans x0
        have c1 := (HB.out.cell (p := ⟨b, off + hi * 5 + 1, none⟩) hb).trans x1
        have c2 := (HB.out.cell (p := ⟨b, off + hi * 5 + 2, none⟩) hb).trans x2
        have c3 := (HB.out.cell (p := ⟨b, off + hi * 5 + 3, none⟩) hb).trans x3
        have c4 := (HB.out.cell (p := ⟨b, off + hi * 5 + 4, none⟩) hb).trans x4
        have A := atId_any (ms.getD hi moD) (HS.out _ (mem_getD (by omega))) id wr
        obtain ⟨sa, sn, sc, hsv⟩ := HS.out _ (mem_getD (show hi < ms.length by omega))
        have szr := HB.out.size
        obtain ⟨bb, hbb⟩ : ∃ bb, (decide (hi < ms.length) && decide ((ms.getD hi moD).id = id)) = bb := ⟨_, rfl⟩
        have HBB : Hid _ := hbb
        have HV : Hid (bb = (cmpI (ms.getD hi moD).id id == 0)) := by
          show _ = _
          rw [← hbb, Bool.eq_iff_iff]
          simp only [Bool.and_eq_true, decide_eq_true_eq, beq_iff_eq]
          unfold cmpI
          split <;> (try split) <;> omega
        clear hcc HC HS x0 x1 x2 x3 x4 hbb
        generalize hxx : ms.getD hi moD = x at *
        obtain ⟨xi, xc, xf, xh, xv, xs⟩ := x
        simp only at hsv
        subst hsv
        simp only [ov] at A
        simp only at HV
        have HXX : Hid _ := hxx
        clear hxx
        generalize cmpI xi id = cc at *
        cases hcc : (cc == 0)
        · rw [hcc] at HV
          go_wp2_with (go_at_call 116; refine A.mono ?_; rintro e w1 ⟨rfl, b1⟩; have HB1 : Hid _ := HB.out.trans (b1.mono szr); clear b1 A)
          refine bodyPost_ret (v := .tuple #[.int .i64 hi, .bool false]) (by simp [results, Try.results115, go_sem]) rfl ⟨hi, HE, by rw [HXX.out, HBB.out, HV.out], HB1⟩
        · rw [hcc] at HV
          go_wp2_with (go_at_call 116; refine A.mono ?_; rintro e w1 ⟨rfl, b1⟩; have HB1 : Hid _ := HB.out.trans (b1.mono szr); clear b1 A)
          refine bodyPost_ret (v := .tuple #[.int .i64 hi, .bool true]) (by simp [results, Try.results115, go_sem]) rfl ⟨hi, HE, by rw [HXX.out, HBB.out, HV.out], HB1⟩
      · have HV : Hid ((decide (hi < ms.length) && decide ((ms.getD hi moD).id = id)) = false) := by
          show _ = _
          simp [hn]
        clear HC HS
        go_wp2
        refine bodyPost_ret (v := .tuple #[.int .i64 hi, .bool false]) (by simp [results, Try.results115, go_sem]) rfl ⟨hi, HE, by rw [HV.out], HB⟩

theorem placeOf_any {w : World} {v : Value} {ms : List MO} (h : OrowAt w v ms) (hsl : Slices ms) (hr : RiseM ms) (hl : ms.length ≤ 1048576) (id : Int) :
    Calls Try.prog 97 #[v, .int .i64 id] w fun e w' => ∃ i : Nat, EndsM ms id i ∧ e = .returned (.tuple #[.int .i64 i, .bool (decide (i < ms.length) && decide ((ms.getD i moD).id = id))]) ∧ Below w.heap.size w w' := by
  have S := binSearch_any h hsl hr hl id
  obtain ⟨a, cap, rfl, hlc, hcm, _, hc⟩ := h
  clear hc
  go_enter Try.func97, Try.ntmps97
  go_wp2_with fail
  refine S.mono ?_
  rintro e w1 ⟨i, hE, rfl, b1⟩
  have HE : Hid _ := hE
  have HB : Hid _ := b1
  clear S hE b1
  generalize hbb : (decide (i < ms.length) && decide ((ms.getD i moD).id = id)) = bb at *
  have HBB : Hid _ := hbb
  clear hbb
  go_wp2
  exact bodyPost_ret (v := .tuple #[.int .i64 i, .bool bb]) (by simp [results, Try.results97, go_sem]) rfl ⟨i, HE, by rw [HBB.out], HB⟩
end Go.Proofs.Ytfajnnibkcnkaal.gr
