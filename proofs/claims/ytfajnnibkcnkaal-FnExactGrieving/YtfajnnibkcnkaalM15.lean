/-
  Chapter 6 as the program has it: a graph copied whole. Chapter 6 as the program has it: a change made in a copy. Chapter 7: mourning, as mathematics: the rounds of mourning, that they end, that there is one end alone, and that a right graph stays right. Chapter 6: a new graph; by the specification and by the program. Chapter 6: a root stored into a slot, in the graph that a pointer leads to; by the specification and by the program.
-/
import Derived.Test.YtfajnnibkcnkaalM6
import Derived.Test.YtfajnnibkcnkaalM14
import Derived.Test.YtfajnnibkcnkaalM7
import Derived.Shelf.Abstract
import Derived.Lib.Hide
import Derived.Test.YtfajnnibkcnkaalM12
import Derived.Test.YtfajnnibkcnkaalM8
namespace Go.Proofs.Ytfajnnibkcnkaal.gr
open Go.RowKit rows heads
set_option maxRecDepth 100000

theorem cellsO_sv : ∀ (ms : List MO) (k : Nat) (v : Value), k < ms.length → (cellsO ms).set (k * 5 + 4) v = cellsO (ms.set k { ms.getD k moD with sv := v })
  | [], _, _, h => by simp at h
  | m :: ms, 0, v, _ => by simp [cellsO]
  | m :: ms, k + 1, v, h => by
    have := cellsO_sv ms k v (by simpa using h)
    rw [show (k + 1) * 5 + 4 = k * 5 + 4 + 1 + 1 + 1 + 1 + 1 by omega]
    simpa [cellsO] using this
theorem fullO_sv {w : World} {b : Nat} {ms : List MO} (h : FullO w b ms) {k : Nat} (hk : k < ms.length) (v : Value) : FullO (w.setCell ⟨b, k * 5 + 4, none⟩ v) b (ms.set k { ms.getD k moD with sv := v }) := by
  refine (cells_setCell h (k * 5 + 4) v).trans ?_
  rw [← cellsO_sv ms k v hk]
  simp
theorem fullR_ch {S : List Nat} {w w' : World} {b : Nat} {es : List Rf} (h : FullR w b es) (hc : Ch S w w') (hb : b ∉ S) : FullR w' b es := (hc.block b (lt_of_block h) hb).trans h

/-- A copy under way: k objects have lists of their own. -/
structure CG (w : World) (n0 P R q1 q2 q3 : Nat) (ms : List MO) (G : Gr) (k : Nat) (ns : List MO) (wr : World) : Prop where
  len : ns.length = ms.length
  abs : ns.map MO.abs = ms.map MO.abs
  full : FullO wr q3 ns
  own : ∀ i, i < k → OwnR wr n0 (ns.getD i moD).sv (ns.getD i moD).slots
  rest : ∀ i, k ≤ i → i < ms.length → ns.getD i moD = ms.getD i moD
  nd : ([P, R, q1, q2, q3] ++ blks (ns.take k)).Nodup
  lt : ∀ x ∈ [P, R, q1, q2, q3] ++ blks (ns.take k), n0 ≤ x ∧ x < wr.heap.size
  gr : Five wr P 32 (.slice (some ⟨q3, 0, none⟩) ms.length ms.length) (.slice (some ⟨q1, 0, none⟩) G.roots.length G.roots.length) (.slice (some ⟨q2, 0, none⟩) G.mourned.length G.mourned.length) (.int .i64 G.next) (.int .i64 G.seed)
  res : Five wr R 32 (.slice none 0 0) (.slice none 0 0) (.slice none 0 0) (.int .i64 0) (.int .i64 0)
  r1 : FullR wr q1 G.roots
  r2 : FullR wr q2 G.mourned
  bel : Below n0 w wr

theorem take_set_succ {ns : List MO} {k : Nat} (hk : k < ns.length) (m : MO) : (ns.set k m).take (k + 1) = ns.take k ++ [m] := by
  rw [List.take_add_one, List.take_set_of_le (Nat.le_refl _)]
  simp [hk]

theorem CG.step {w : World} {n0 P R q1 q2 q3 : Nat} {ms : List MO} {G : Gr} {k : Nat} {ns : List MO} {wr w2 : World} (h : CG w n0 P R q1 q2 q3 ms G k ns wr) (hk : k < ms.length) (hn : n0 ≤ wr.heap.size)
    (hl : (ms.getD k moD).slots.length ≤ maxLen) (b2 : Below wr.heap.size wr w2) (F2 : FullR w2 wr.heap.size (ms.getD k moD).slots) :
    ∃ ns', CG w n0 P R q1 q2 q3 ms G (k + 1) ns' (w2.setCell ⟨q3, k * 5 + 4, none⟩ (.slice (some ⟨wr.heap.size, 0, none⟩) (ms.getD k moD).slots.length (ms.getD k moD).slots.length)) := by
  generalize hv : Value.slice (some ⟨wr.heap.size, 0, none⟩) (ms.getD k moD).slots.length (ms.getD k moD).slots.length = v
  have hkn : k < ns.length := by rw [h.len]; exact hk
  have hxk := h.rest k (Nat.le_refl _) hk
  have CH := one_ch w2 q3 (k * 5 + 4) v
  have hq3 : q3 < wr.heap.size := (h.lt q3 (by simp)).2
  have nd := h.nd
  have eb : blk v = [wr.heap.size] := by rw [← hv]; rfl
  have hget : ∀ i, i < ms.length → (ns.set k { ns.getD k moD with sv := v }).getD i moD = if i = k then { ns.getD k moD with sv := v } else ns.getD i moD := fun i hi => by
    rw [List.getD_eq_getElem?_getD, List.getElem?_set]
    by_cases e : k = i
    · subst e
      simp [hkn]
    · rw [if_neg e, if_neg (fun e' => e e'.symm), List.getD_eq_getElem?_getD]
  have etk : blks ((ns.set k { ns.getD k moD with sv := v }).take (k + 1)) = blks (ns.take k) ++ [wr.heap.size] := by
    rw [take_set_succ hkn, blks_snoc]
    show _ ++ blk v = _
    rw [eb]
  have ne3 : ∀ x, x = P ∨ x = R ∨ x = q1 ∨ x = q2 ∨ x ∈ blks (ns.take k) ∨ x = wr.heap.size → x ≠ q3 := by
    intro x hx e
    subst e
    simp only [List.cons_append, List.nil_append, List.nodup_cons, List.mem_cons, not_or] at nd
    rcases hx with hx | hx | hx | hx | hx | hx
    · exact nd.1.2.2.2.1 hx.symm
    · exact nd.2.1.2.2.1 hx.symm
    · exact nd.2.2.1.2.1 hx.symm
    · exact nd.2.2.2.1.1 hx.symm
    · exact nd.2.2.2.2.1 hx
    · omega
  have notS : ∀ x, x ≠ q3 → x ∉ [q3] := fun x hx e => hx (List.mem_singleton.1 e)
  refine ⟨ns.set k { ns.getD k moD with sv := v }, by rw [List.length_set]; exact h.len, ?_, fullO_sv (fullO_below h.full b2) hkn v, fun i hi => ?_, fun i h1 h2 => ?_, ?_, fun x hx => ?_, ?_, ?_, ?_, ?_, ?_⟩
  · rw [← h.abs]
    apply List.ext_getElem?
    intro i
    rw [List.getElem?_map, List.getElem?_map, List.getElem?_set]
    by_cases e : k = i
    · subst e
      rw [if_pos rfl, if_pos hkn, getD_getElem? hkn]
      rfl
    · rw [if_neg e]
  · rw [hget i (by omega)]
    by_cases e : i = k
    · subst e
      rw [if_pos rfl]
      show OwnR _ _ v (ns.getD i moD).slots
      have F3 := fullR_own (fullR_ch F2 CH (notS _ (ne3 _ (.inr (.inr (.inr (.inr (.inr rfl)))))))) hn hl
      rw [hv] at F3
      rw [hxk]
      exact F3
    · rw [if_neg e]
      have hi' : i < k := by omega
      refine row_ch (ownR_below (h.own i hi') b2) CH (fun x hx => notS x (ne3 x (.inr (.inr (.inr (.inr (.inl ?_)))))))
      simp only [blks, List.mem_flatMap]
      refine ⟨ns.getD i moD, ?_, hx⟩
      rw [List.mem_take_iff_getElem]
      exact ⟨i, by omega, by rw [List.getD_eq_getElem?_getD, List.getElem?_eq_getElem (by omega)]; rfl⟩
  · rw [hget i h2, if_neg (by omega)]
    exact h.rest i (by omega) h2
  · rw [etk, ← List.append_assoc, List.nodup_append]
    refine ⟨nd, by simp, fun a ha b hb e => ?_⟩
    have := (h.lt a ha).2
    rw [List.mem_singleton] at hb
    omega
  · rw [etk, ← List.append_assoc, List.mem_append] at hx
    have sz : (w2.setCell ⟨q3, k * 5 + 4, none⟩ v).heap.size = w2.heap.size := by simp
    have l2 := lt_of_block F2
    rcases hx with hx | hx
    · have := h.lt x hx
      have := b2.size
      omega
    · rw [List.mem_singleton] at hx
      omega
  · exact five_ch (five_below h.gr b2) CH (notS _ (ne3 _ (.inl rfl)))
  · exact five_ch (five_below h.res b2) CH (notS _ (ne3 _ (.inr (.inl rfl))))
  · exact fullR_ch (fullR_below h.r1 b2) CH (notS _ (ne3 _ (.inr (.inr (.inl rfl)))))
  · exact fullR_ch (fullR_below h.r2 b2) CH (notS _ (ne3 _ (.inr (.inr (.inr (.inl rfl))))))
  · exact (h.bel.trans (b2.mono hn)).setCell (p := ⟨q3, k * 5 + 4, none⟩) (h.lt q3 (by simp)).1 v

theorem CG.done {w : World} {n0 P R q1 q2 q3 : Nat} {ms : List MO} {G : Gr} {ns : List MO} {wr : World} (h : CG w n0 P R q1 q2 q3 ms G ms.length ns wr) (ea : ms.map MO.abs = G.objs) (l1 : ms.length ≤ maxLen) (l2 : G.roots.length ≤ maxLen) (l3 : G.mourned.length ≤ maxLen) :
    OwnG wr n0 (.slice (some ⟨q3, 0, none⟩) ms.length ms.length) (.slice (some ⟨q1, 0, none⟩) G.roots.length G.roots.length) (.slice (some ⟨q2, 0, none⟩) G.mourned.length G.mourned.length) ns G := by
  have et : ns.take ms.length = ns := by rw [← h.len, List.take_length]
  have nd := h.nd
  rw [et] at nd
  have lt := h.lt
  rw [et] at lt
  simp only [List.cons_append, List.nil_append, List.nodup_cons, List.mem_cons, not_or] at nd
  obtain ⟨_, _, ⟨a1, a2, a3⟩, ⟨b1, b2⟩, c1, c2⟩ := nd
  refine ⟨h.abs.trans ea, ⟨?_, fun m hm => ?_, ?_⟩, fullR_own h.r1 (lt q1 (by simp)).1 l2, fullR_own h.r2 (lt q2 (by simp)).1 l3, ?_⟩
  · have := fullO_own h.full (lt q3 (by simp)).1 (by rw [h.len]; exact l1)
    rw [h.len] at this
    exact this
  · obtain ⟨i, hi, rfl⟩ := List.getElem_of_mem hm
    have := h.own i (by rw [← h.len]; exact hi)
    rw [List.getD_eq_getElem?_getD, List.getElem?_eq_getElem hi] at this
    exact this
  · show ([q3] ++ blks ns).Nodup
    rw [List.singleton_append, List.nodup_cons]
    exact ⟨c1, c2⟩
  · show ([q3] ++ blks ns ++ [q1] ++ [q2]).Nodup
    simp only [List.nodup_append, List.mem_append, List.mem_singleton]
    refine ⟨⟨⟨by simp, c2, fun a ha b hb e => ?_⟩, by simp, fun a ha b hb e => ?_⟩, by simp, fun a ha b hb e => ?_⟩
    · subst ha e; exact c1 hb
    · subst hb e
      rcases ha with ha | ha
      · exact a2 ha
      · exact a3 ha
    · subst hb e
      rcases ha with (ha | ha) | ha
      · exact b1 ha
      · exact b2 ha
      · exact a1 ha.symm

set_option maxHeartbeats 8000000 in
theorem copiedGraph_any {w : World} {o r m : Value} {ms : List MO} {G : Gr} (h : GraphAt w o r m ms G) (hs : gSize ms G ≤ 1048576) :
    Calls Try.prog 80 #[gv o r m G.next G.seed] w fun e w' => ∃ o' r' m' ns, e = .returned (gv o' r' m' G.next G.seed) ∧ OwnG w' w.heap.size o' r' m' ns G ∧ Below w.heap.size w w' := by
  have hss := gSize_slots hs
  have hsz : ms.length ≤ 1048576 ∧ G.roots.length ≤ 1048576 ∧ G.mourned.length ≤ 1048576 := by unfold gSize at hs; omega
  have hmx : (1048576 : Nat) ≤ maxLen := by decide
  have h0 := h
  obtain ⟨a1, n1, c1, a2, n2, c2, a3, n3, c3, e1, e2, e3⟩ := graphAt_slices h
  subst e1 e2 e3
  obtain ⟨ea, hO, hR, hM⟩ := h
  have hsl := objs_slices hO
  have HO : Hid _ := hO
  have HR : Hid _ := hR
  have HM : Hid _ := hM
  have HSL : Hid _ := hsl
  have HSS : Hid _ := hss
  have HEA : Hid _ := ea
  have HSZ : Hid _ := hsz
  clear hO hR hM hsl ea h0 hss hs
  generalize hn0 : w.heap.size = n0
  have B0 : Below n0 w ((w.alloc (gb (.slice a1 n1 c1) (.slice a2 n2 c2) (.slice a3 n3 c3) G.next G.seed)).alloc (gb (.slice none 0 0) (.slice none 0 0) (.slice none 0 0) 0 0)) := ((Below.refl _ w).alloc (by omega) _).alloc (by simp; omega) _
  have TP : Five ((w.alloc (gb (.slice a1 n1 c1) (.slice a2 n2 c2) (.slice a3 n3 c3) G.next G.seed)).alloc (gb (.slice none 0 0) (.slice none 0 0) (.slice none 0 0) 0 0)) n0 32 (.slice a1 n1 c1) (.slice a2 n2 c2) (.slice a3 n3 c3) (.int .i64 G.next) (.int .i64 G.seed) := by
    rw [← hn0]
    exact five_below (five_new w _ _ _ _ _ _) ((Below.refl _ _).alloc (Nat.le_refl _) _)
  have TR : Five ((w.alloc (gb (.slice a1 n1 c1) (.slice a2 n2 c2) (.slice a3 n3 c3) G.next G.seed)).alloc (gb (.slice none 0 0) (.slice none 0 0) (.slice none 0 0) 0 0)) (n0 + 1) 32 (.slice none 0 0) (.slice none 0 0) (.slice none 0 0) (.int .i64 0) (.int .i64 0) := by
    have := five_new (w.alloc (gb (.slice a1 n1 c1) (.slice a2 n2 c2) (.slice a3 n3 c3) G.next G.seed)) 32 (.slice none 0 0) (.slice none 0 0) (.slice none 0 0) (.int .i64 0) (.int .i64 0)
    rw [← hn0]
    simpa using this
  have BW : ∀ {X : World}, Below n0 w X → Below w.heap.size w X := fun hb => by rw [hn0]; exact hb
  have HBW : Hid _ := @BW
  clear BW
  go_enter Try.func80, Try.ntmps80
  go_wp2_with fail
  have C1 := copiedR_any (refsAt_below HR.out (HBW.out B0)) HSZ.out.2.1
  have hX : n0 + 2 ≤ ((w.alloc (gb (.slice a1 n1 c1) (.slice a2 n2 c2) (.slice a3 n3 c3) G.next G.seed)).alloc (gb (.slice none 0 0) (.slice none 0 0) (.slice none 0 0) 0 0)).heap.size := by simp; omega
  generalize ((w.alloc (gb (.slice a1 n1 c1) (.slice a2 n2 c2) (.slice a3 n3 c3) G.next G.seed)).alloc (gb (.slice none 0 0) (.slice none 0 0) (.slice none 0 0) 0 0)) = X at *
  refine C1.mono ?_
  rintro e w1 ⟨rfl, F1, b1⟩
  clear C1
  generalize hq1 : X.heap.size = q1 at *
  have B1 := B0.trans (b1.mono (by omega))
  have TP1 := five_below TP (by rw [hq1]; exact b1)
  have TR1 := five_below TR (by rw [hq1]; exact b1)
  have l1 := lt_of_block F1
  obtain ⟨z0, z1, z2, z3, z4, zf⟩ := five_cells TP1
  have f1 := zf 1
  have CH1 := one_ch w1 n0 1 (.slice (some ⟨q1, 0, none⟩) G.roots.length G.roots.length)
  have HTP : Hid _ := five_set1 TP1 (.slice (some ⟨q1, 0, none⟩) G.roots.length G.roots.length)
  have HTR : Hid _ := five_ch TR1 CH1 (by simp)
  have HF1 : Hid _ := fullR_ch F1 CH1 (by simp; omega)
  have HB1 : Hid _ := B1.setCell (p := ⟨n0, 1, none⟩) (Nat.le_refl _) (.slice (some ⟨q1, 0, none⟩) G.roots.length G.roots.length)
  have hY : q1 < (w1.setCell ⟨n0, 1, none⟩ (.slice (some ⟨q1, 0, none⟩) G.roots.length G.roots.length)).heap.size := by simpa using l1
  clear TP TR B0 b1 F1 B1 TP1 TR1 CH1 zf l1
  go_wp2_with fail
  have C2 := copiedR_any (refsAt_below HM.out (HBW.out HB1.out)) HSZ.out.2.2
  generalize (w1.setCell ⟨n0, 1, none⟩ (.slice (some ⟨q1, 0, none⟩) G.roots.length G.roots.length)) = Y at *
  refine C2.mono ?_
  rintro e w2 ⟨rfl, F2, b2⟩
  clear C2 z0 z1 z2 z3 z4 f1
  generalize hq2 : Y.heap.size = q2 at *
  have B2 := HB1.out.trans (b2.mono (by omega))
  have TP2 := five_below HTP.out (by rw [hq2]; exact b2)
  have TR2 := five_below HTR.out (by rw [hq2]; exact b2)
  have F12 := fullR_below HF1.out (by rw [hq2]; exact b2)
  have l2 := lt_of_block F2
  obtain ⟨z0, z1, z2, z3, z4, zf⟩ := five_cells TP2
  have f1 := zf 2
  have CH2 := one_ch w2 n0 2 (.slice (some ⟨q2, 0, none⟩) G.mourned.length G.mourned.length)
  have HTP2 : Hid _ := five_set2 TP2 (.slice (some ⟨q2, 0, none⟩) G.mourned.length G.mourned.length)
  have HTR2 : Hid _ := five_ch TR2 CH2 (by simp)
  have HF12 : Hid _ := fullR_ch F12 CH2 (by simp; omega)
  have HF2 : Hid _ := fullR_ch F2 CH2 (by simp; omega)
  have HB2 : Hid _ := B2.setCell (p := ⟨n0, 2, none⟩) (Nat.le_refl _) (.slice (some ⟨q2, 0, none⟩) G.mourned.length G.mourned.length)
  have hZ : q2 < (w2.setCell ⟨n0, 2, none⟩ (.slice (some ⟨q2, 0, none⟩) G.mourned.length G.mourned.length)).heap.size := by simpa using l2
  clear HTP HTR HF1 HB1 b2 F2 B2 TP2 TR2 F12 CH2 zf l2
  go_wp2_with fail
  have C3 := copiedO_any (orowAt_below HO.out.1 (HBW.out HB2.out)) HSL.out HSZ.out.1
  generalize (w2.setCell ⟨n0, 2, none⟩ (.slice (some ⟨q2, 0, none⟩) G.mourned.length G.mourned.length)) = Z at *
  refine C3.mono ?_
  rintro e w3 ⟨rfl, F3, b3⟩
  clear C3 z0 z1 z2 z3 z4 f1
  generalize hq3 : Z.heap.size = q3 at *
  have B3 := HB2.out.trans (b3.mono (by omega))
  have TP3 := five_below HTP2.out (by rw [hq3]; exact b3)
  have TR3 := five_below HTR2.out (by rw [hq3]; exact b3)
  have F13 := fullR_below HF12.out (by rw [hq3]; exact b3)
  have F23 := fullR_below HF2.out (by rw [hq3]; exact b3)
  have l3 := lt_of_block F3
  obtain ⟨z0, z1, z2, z3, z4, zf⟩ := five_cells TP3
  have f1 := zf 0
  have CH3 := one_ch w3 n0 0 (.slice (some ⟨q3, 0, none⟩) ms.length ms.length)
  have hS : q3 < (w3.setCell ⟨n0, 0, none⟩ (.slice (some ⟨q3, 0, none⟩) ms.length ms.length)).heap.size := by simpa using l3
  have HCG : Hid (CG w n0 n0 (n0 + 1) q1 q2 q3 ms G 0 ms (w3.setCell ⟨n0, 0, none⟩ (.slice (some ⟨q3, 0, none⟩) ms.length ms.length))) := by
    refine ⟨rfl, rfl, ?_, fun i hi => by omega, fun i _ _ => rfl, ?_, ?_, five_set0 TP3 _, five_ch TR3 CH3 (by simp), fullR_ch F13 CH3 (by simp; omega), fullR_ch F23 CH3 (by simp; omega), B3.setCell (p := ⟨n0, 0, none⟩) (Nat.le_refl _) _⟩
    · exact (CH3.block q3 l3 (by simp; omega)).trans F3
    · simp [blks]; omega
    · intro x hx
      simp [blks] at hx
      omega
  clear HTP2 HTR2 HF12 HF2 HB2 b3 F3 B3 TP3 TR3 F13 F23 CH3 zf l3
  go_wp2_with fail
  generalize (w3.setCell ⟨n0, 0, none⟩ (.slice (some ⟨q3, 0, none⟩) ms.length ms.length)) = S0 at *
  clear z0 z1 z2 z3 z4 f1 hq1 hq2 hq3
  go_loopw [19] (fun p wr => ∃ (k : Nat) (ns : List MO), k ≤ ms.length ∧ p = .int .i64 k ∧ Hid (CG w n0 n0 (n0 + 1) q1 q2 q3 ms G k ns wr) ∧ q3 < wr.heap.size) (fun p _ => ms.length - (intOf p).toNat)
  case atStart => exact ⟨0, ms, Nat.zero_le _, rfl, HCG, hS⟩
  case round =>
    obtain ⟨k, ns, hk, rfl, HK, hq⟩ := hrel
    clear HCG hS
    have y0 := (five_cells HK.out.gr).1
    by_cases hlt : k < ms.length
    · have hx := HK.out.rest k (Nat.le_refl _) hlt
      obtain ⟨_, _, _, _, d4⟩ := fullO_cell HK.out.full (i := k) (by rw [HK.out.len]; exact hlt)
      rw [hx] at d4
      have RA := refsAt_below (HO.out.2 _ (mem_getD hlt)) (HBW.out HK.out.bel)
      have CR := copiedR_any (w := wr.drew) (refsAt_drewN (n := 1) RA) (HSS.out _ (mem_getD hlt))
      have HST : Hid (∀ w2, Below wr.heap.size wr w2 → FullR w2 wr.heap.size (ms.getD k moD).slots → _) := fun w2 hb hF => HK.out.step hlt (by omega) (Nat.le_trans (HSS.out _ (mem_getD hlt)) hmx) hb hF
      obtain ⟨sa, sn, sc, hsv⟩ := refs_slice RA
      rw [hsv] at d4 CR
      have hfz : ∀ w2, Below wr.heap.size wr w2 → w2.frozen? ⟨q3, k * 5 + 4, none⟩ = false := fun w2 hb => fullO_frozen (fullO_below HK.out.full hb) _
      have HFZ : Hid _ := hfz
      clear RA hx hsv hfz HK
      generalize (ms.getD k moD).slots = xs at *
      go_wp2_with fail
      go_region_law (go_simp; go_at_call 101; refine CR.mono ?_; rintro e w2 ⟨rfl, F2, b2⟩; have b2' : Below wr.heap.size wr w2 := ⟨b2.os, b2.tape, b2.output, b2.size, b2.block⟩; have p0 := (b2'.cell (p := ⟨n0, 0, none⟩) (by show n0 < _; omega)).trans y0; have p4 := (b2'.cell (p := ⟨q3, k * 5 + 4, none⟩) hq).trans d4; have pf := HFZ.out w2 b2'; have HSX : Hid _ := HST.out w2 b2' F2; have sz2 := b2'.size; clear F2 b2 b2')
      all_goals go_wp2
      all_goals (obtain ⟨ns', hN⟩ := HSX.out)
      all_goals exact ⟨⟨k + 1, ns', by omega, by go_num, hN, by simp; omega⟩, by simp [intOf]; omega⟩
    · have e : k = ms.length := by omega
      subst e
      have OW := HK.out.done HEA.out (by omega) (by omega) (by omega)
      have TPX := HK.out.gr
      have TRX := HK.out.res
      have BX := HK.out.bel
      have hR : n0 + 1 ∉ gblk (.slice (some ⟨q3, 0, none⟩) ms.length ms.length) (.slice (some ⟨q1, 0, none⟩) G.roots.length G.roots.length) (.slice (some ⟨q2, 0, none⟩) G.mourned.length G.mourned.length) ns := by
        have nd := HK.out.nd
        rw [← HK.out.len, List.take_length] at nd
        simp only [List.cons_append, List.nil_append, List.nodup_cons, List.mem_cons, not_or] at nd
        obtain ⟨_, ⟨r1, r2, r3, r4⟩, _⟩ := nd
        simp only [gblk, blk_some, List.mem_append, List.mem_singleton, not_or]
        exact ⟨⟨⟨r3, r4⟩, r1⟩, r2⟩
      obtain ⟨z0, z1, z2, z3, z4, _⟩ := five_cells TPX
      obtain ⟨v0, v1, v2, v3, v4, vf⟩ := five_cells TRX
      have g0 := vf 0
      have g1 := vf 1
      have g2 := vf 2
      have g3 := vf 3
      have g4 := vf 4
      have HOW : Hid _ := ownG_ch OW (five_other (X := wr) (b := n0 + 1) (.slice (some ⟨q3, 0, none⟩) ms.length ms.length) (.slice (some ⟨q1, 0, none⟩) G.roots.length G.roots.length) (.slice (some ⟨q2, 0, none⟩) G.mourned.length G.mourned.length) (.int .i64 G.next) (.int .i64 G.seed)) (fun x hx e => hR ((List.mem_singleton.1 e) ▸ hx))
      have HTX : Hid _ := five_sets TRX (.slice (some ⟨q3, 0, none⟩) ms.length ms.length) (.slice (some ⟨q1, 0, none⟩) G.roots.length G.roots.length) (.slice (some ⟨q2, 0, none⟩) G.mourned.length G.mourned.length) (.int .i64 G.next) (.int .i64 G.seed)
      have HBX : Hid _ := five_belows BX (show n0 ≤ n0 + 1 by omega) (.slice (some ⟨q3, 0, none⟩) ms.length ms.length) (.slice (some ⟨q1, 0, none⟩) G.roots.length G.roots.length) (.slice (some ⟨q2, 0, none⟩) G.mourned.length G.mourned.length) (.int .i64 G.next) (.int .i64 G.seed)
      clear vf OW TPX TRX BX hR HK y0 HO HR HM HSL HSS HEA HSZ HBW
      go_wp2
      exact bodyPost_ret (res_gr rfl rfl HTX.out) rfl ⟨_, _, _, ns, rfl, HOW.out, HBX.out⟩
end Go.Proofs.Ytfajnnibkcnkaal.gr
namespace Go.Proofs.Ytfajnnibkcnkaal.gr
open Go.RowKit rows heads
set_option maxRecDepth 100000

theorem heap_push {w : World} {o x : Obj} {k : Nat} (h : w.heap[k]? = some x) : (w.alloc o).heap[k]? = some x := (Below.heap_alloc w o k (Array.getElem?_eq_some_iff.1 h).1).trans h
theorem res_gr2 {fn : Func} {tmps : Array Value} {X : World} {j i b : Nat} {a1 a2 a3 : Option Addr} {n1 c1 n2 c2 n3 c3 : Nat} {x y : Int} {bb : Bool} (hf : fn.results = #[.cell j 32, .tmp i]) (h2 : tmps[j]? = some (.pointer (some ⟨b, 0, none⟩))) (hi : tmps[i]? = some (.bool bb)) (hX : Five X b 32 (.slice a1 n1 c1) (.slice a2 n2 c2) (.slice a3 n3 c3) (.int .i64 x) (.int .i64 y)) :
    (results fn tmps).run Try.prog X = .ok (.tuple #[gv (.slice a1 n1 c1) (.slice a2 n2 c2) (.slice a3 n3 c3) x y, .bool bb]) X := by
  obtain ⟨k0, k1, k2, k3, k4, _⟩ := five_cells hX
  clear hX
  simp [results, hf, h2, hi, go_sem, k0, k1, k2, k3, k4]

set_option maxHeartbeats 8000000 in
theorem edited_any {w : World} {o r m : Value} {ms : List MO} {G : Gr} (h : GraphAt w o r m ms G) (hs : gSize ms G ≤ 1048576) (F : Nat) (cap : Array Value) (eg : ∀ args w, (callFunc F args).run Try.prog w = .ok (.enter F args) w) {R : Gr} {b : Bool}
    (HC : Hid (gOk G = true → ∀ (base P : Nat) (W : World), w.heap.size ≤ base → Below w.heap.size w W → Held W base P G → Calls Try.prog F (#[.pointer (some ⟨P, 0, none⟩)] ++ cap) W fun e w' => e = .returned (.bool b) ∧ Held w' base P R ∧ Below base W w')) :
    Calls Try.prog 43 #[gv o r m G.next G.seed, .func (.func F) #[] cap] w fun e w' => ∃ o' r' m' rs, e = .returned (.tuple #[gv o' r' m' (if gOk G = true then R else gr0).next (if gOk G = true then R else gr0).seed, .bool (gOk G && b)]) ∧ OwnG w' w.heap.size o' r' m' rs (if gOk G = true then R else gr0) ∧ Below w.heap.size w w' := by
  obtain ⟨a1, n1, c1, a2, n2, c2, a3, n3, c3, e1, e2, e3⟩ := graphAt_slices h
  subst e1 e2 e3
  generalize hn0 : w.heap.size = n0 at *
  have B0 : Below n0 w ((w.alloc (gb (.slice a1 n1 c1) (.slice a2 n2 c2) (.slice a3 n3 c3) G.next G.seed)).alloc (gb (.slice none 0 0) (.slice none 0 0) (.slice none 0 0) 0 0)) := ((Below.refl _ w).alloc (by omega) _).alloc (by simp; omega) _
  have TP : Five ((w.alloc (gb (.slice a1 n1 c1) (.slice a2 n2 c2) (.slice a3 n3 c3) G.next G.seed)).alloc (gb (.slice none 0 0) (.slice none 0 0) (.slice none 0 0) 0 0)) n0 32 (.slice a1 n1 c1) (.slice a2 n2 c2) (.slice a3 n3 c3) (.int .i64 G.next) (.int .i64 G.seed) := by
    rw [← hn0]
    exact five_below (five_new w _ _ _ _ _ _) ((Below.refl _ _).alloc (Nat.le_refl _) _)
  have TR : Five ((w.alloc (gb (.slice a1 n1 c1) (.slice a2 n2 c2) (.slice a3 n3 c3) G.next G.seed)).alloc (gb (.slice none 0 0) (.slice none 0 0) (.slice none 0 0) 0 0)) (n0 + 1) 32 (.slice none 0 0) (.slice none 0 0) (.slice none 0 0) (.int .i64 0) (.int .i64 0) := by
    have := five_new (w.alloc (gb (.slice a1 n1 c1) (.slice a2 n2 c2) (.slice a3 n3 c3) G.next G.seed)) 32 (.slice none 0 0) (.slice none 0 0) (.slice none 0 0) (.int .i64 0) (.int .i64 0)
    rw [← hn0]
    simpa using this
  have hX : n0 + 2 ≤ ((w.alloc (gb (.slice a1 n1 c1) (.slice a2 n2 c2) (.slice a3 n3 c3) G.next G.seed)).alloc (gb (.slice none 0 0) (.slice none 0 0) (.slice none 0 0) 0 0)).heap.size := by simp; omega
  have HG : Hid (∀ {X : World}, Below n0 w X → GraphAt X (.slice a1 n1 c1) (.slice a2 n2 c2) (.slice a3 n3 c3) ms G) := fun {X} hb => graphAt_below h (by rw [hn0]; exact hb)
  have GO := implGraphOk (HG.out B0) hs
  obtain ⟨RG, hRG⟩ : ∃ RG, (if gOk G = true then R else gr0) = RG := ⟨_, rfl⟩
  obtain ⟨RB, hRB⟩ : ∃ RB, (gOk G && b) = RB := ⟨_, rfl⟩
  rw [hRG, hRB]
  have HRG : Hid _ := hRG
  have HRB : Hid _ := hRB
  clear hRG hRB h
  go_enter Try.func43, Try.ntmps43
  go_wp2_with fail
  generalize ((w.alloc (gb (.slice a1 n1 c1) (.slice a2 n2 c2) (.slice a3 n3 c3) G.next G.seed)).alloc (gb (.slice none 0 0) (.slice none 0 0) (.slice none 0 0) 0 0)) = X at *
  refine GO.mono ?_
  rintro e w1 ⟨rfl, b1⟩
  have B1 := B0.trans (b1.mono (by omega))
  have TP1 := five_below TP b1
  have TR1 := five_below TR b1
  have s1 : n0 + 2 ≤ w1.heap.size := Nat.le_trans hX b1.size
  clear GO TP TR B0 b1 hX
  obtain ⟨v0, v1, v2, v3, v4, vf⟩ := five_cells TR1
  have g0 := vf 0
  have g1 := vf 1
  have g2 := vf 2
  have g3 := vf 3
  have g4 := vf 4
  cases ok : gOk G
  · have ERG : RG = gr0 := by rw [← HRG.out, ok]; rfl
    have ERB : Hid (RB = false) := by show _ = _; rw [← HRB.out, ok]; rfl
    subst ERG
    have HTX : Hid _ := five_sets TR1 (.slice none 0 0) (.slice none 0 0) (.slice none 0 0) (.int .i64 0) (.int .i64 0)
    have HBX : Hid _ := five_belows B1 (show n0 ≤ n0 + 1 by omega) (.slice none 0 0) (.slice none 0 0) (.slice none 0 0) (.int .i64 0) (.int .i64 0)
    clear HRG HRB HC HG TP1 TR1 B1 vf
    go_wp2
    exact bodyPost_ret (res_gr2 rfl rfl rfl HTX.out) rfl ⟨_, _, _, [], by rw [ERB.out]; rfl, ownG_zero _ _, HBX.out⟩
  · have ERG : Hid (RG = R) := by show _ = _; rw [← HRG.out, ok]; rfl
    have ERB : Hid (RB = b) := by show _ = _; rw [← HRB.out, ok]; rfl
    have CG := copiedGraph_any (HG.out B1) hs
    obtain ⟨z0, z1, z2, z3, z4, _⟩ := five_cells TP1
    have HC1 : Hid _ := HC.out ok
    have HTR1 : Hid _ := TR1
    have HB1 : Hid _ := B1
    clear HRG HRB HC HG TP1 TR1 B1 vf
    go_wp2_with fail
    refine CG.mono ?_
    rintro e w2 ⟨o', r', m', ns, rfl, OG, b2⟩
    obtain ⟨a1', n1', c1', a2', n2', c2', a3', n3', c3', e1, e2, e3⟩ := graphAt_slices (ownG_at OG)
    subst e1 e2 e3
    clear CG z0 z1 z2 z3 z4 v0 v1 v2 v3 v4 g0 g1 g2 g3 g4
    have s2 := b2.size
    have BA : Below w2.heap.size w2 (w2.alloc (gb (.slice a1' n1' c1') (.slice a2' n2' c2') (.slice a3' n3' c3') G.next G.seed)) := (Below.refl _ w2).alloc (Nat.le_refl _) _
    have HH : Held (w2.alloc (gb (.slice a1' n1' c1') (.slice a2' n2' c2') (.slice a3' n3' c3') G.next G.seed)) w1.heap.size w2.heap.size G :=
      ⟨_, _, _, ns, five_new w2 _ _ _ _ _ _, ownG_below OG BA, fun e => by have := (ownG_lt OG _ e).2; omega, s2⟩
    have B2 := (HB1.out.trans (b2.mono (by omega))).trans (BA.mono (by omega))
    have CL := HC1.out w1.heap.size w2.heap.size _ (by omega) B2 HH
    have HTR2 : Hid _ := five_below (five_below HTR1.out b2) BA
    have HB2 : Hid _ := B2
    have s3 : w1.heap.size ≤ (w2.alloc (gb (.slice a1' n1' c1') (.slice a2' n2' c2') (.slice a3' n3' c3') G.next G.seed)).heap.size := by simp; omega
    clear OG b2 BA HH B2 HC1 HTR1 HB1
    go_wp2_with (go_at_fn F; refine CL.mono ?_; rintro e w4 ⟨rfl, ⟨o4, r4, m4, rs, T4, O4, N4, _⟩, b4⟩; have HT4 : Hid _ := T4; have HO4 : Hid _ := O4; have HB4 : Hid _ := b4; clear T4 O4 b4 N4 CL; refine Hid.out ?_)
    have O4 := HO4.out
    have T4 := HT4.out
    have B4 := HB2.out.trans (HB4.out.mono (by omega))
    have TR4 : Five w4 (n0 + 1) 32 (.slice none 0 0) (.slice none 0 0) (.slice none 0 0) (.int .i64 0) (.int .i64 0) := (HB4.out.block (n0 + 1) (by omega)).trans HTR2.out
    obtain ⟨a1, n1, c1, a2, n2, c2, a3, n3, c3, e1, e2, e3⟩ := graphAt_slices (ownG_at O4)
    subst e1 e2 e3
    obtain ⟨z0, z1, z2, z3, z4, _⟩ := five_cells T4
    obtain ⟨v0, v1, v2, v3, v4, vf⟩ := five_cells TR4
    have g0 := vf 0
    have g1 := vf 1
    have g2 := vf 2
    have g3 := vf 3
    have g4 := vf 4
    have HOW : Hid _ := ownG_base (ownG_ch O4 (five_other (X := w4) (b := n0 + 1) (.slice a1 n1 c1) (.slice a2 n2 c2) (.slice a3 n3 c3) (.int .i64 R.next) (.int .i64 R.seed)) (fun x hx e => by have := (ownG_lt O4 x hx).1; rw [List.mem_singleton] at e; omega)) (show n0 ≤ w1.heap.size by omega)
    have HTX : Hid _ := five_sets TR4 (.slice a1 n1 c1) (.slice a2 n2 c2) (.slice a3 n3 c3) (.int .i64 R.next) (.int .i64 R.seed)
    have HBX : Hid _ := five_belows B4 (show n0 ≤ n0 + 1 by omega) (.slice a1 n1 c1) (.slice a2 n2 c2) (.slice a3 n3 c3) (.int .i64 R.next) (.int .i64 R.seed)
    clear vf O4 T4 B4 TR4 HO4 HT4 HB4 HB2 HTR2
    refine Go.Lib.hid ?_
    go_wp2
    exact bodyPost_ret (res_gr2 rfl rfl rfl HTX.out) rfl ⟨_, _, _, rs, by rw [ERB.out, ERG.out], by rw [ERG.out]; exact HOW.out, HBX.out⟩
end Go.Proofs.Ytfajnnibkcnkaal.gr
namespace Go.Proofs.Ytfajnnibkcnkaal.gr
open Go.RowKit rows heads
set_option maxRecDepth 100000
set_option linter.unusedVariables false

/-- The object at p made plain. -/
def plainAt (os : List Ob) (p : Nat) : List Ob := os.set p { os.getD p obD with fmt := 0 }
/-- One that grieves is mourned. -/
def mourn1 (G : Gr) (p : Nat) : Gr := { G with objs := plainAt G.objs p, mourned := if G.mourned.length < 40 then G.mourned ++ [(2, (G.objs.getD p obD).id)] else G.mourned }
/-- All of a round are mourned. -/
def mournR (G : Gr) (ps : List Nat) : Gr := ps.foldl mourn1 G
/-- The rounds of mourning. -/
def Rounds : List (List Nat) → Gr → Gr → Prop
  | [], G, R => IsG G [] ∧ R = G
  | ps :: L, G, R => ps ≠ [] ∧ IsG G ps ∧ Rounds L (mournR G ps) R
def Mourns (G R : Gr) : Prop := ∃ L, Rounds L G R

theorem plain_len (os : List Ob) (p : Nat) : (plainAt os p).length = os.length := by simp [plainAt]
theorem plain_getD {os : List Ob} {p : Nat} (hp : p < os.length) (i : Nat) : (plainAt os p).getD i obD = if i = p then { os.getD p obD with fmt := 0 } else os.getD i obD := by
  unfold plainAt
  rw [List.getD_eq_getElem?_getD, List.getElem?_set]
  by_cases e : p = i
  · rw [if_pos e, if_pos e.symm, if_pos (by omega)]
    rfl
  · rw [if_neg e, if_neg (fun h => e h.symm), ← List.getD_eq_getElem?_getD]
theorem plain_ids (os : List Ob) (p : Nat) : (plainAt os p).map Ob.id = os.map Ob.id := by
  refine List.ext_getElem? fun i => ?_
  unfold plainAt
  rw [List.getElem?_map, List.getElem?_map, List.getElem?_set]
  split
  · rename_i e
    subst e
    split
    · rename_i h
      rw [List.getD_eq_getElem?_getD, List.getElem?_eq_getElem h]
      rfl
    · rename_i h
      rw [List.getElem?_eq_none (by omega)]
  · rfl
theorem plain_last {os : List Ob} {p : Nat} (hp : p < os.length) : ∀ i, lastOf (plainAt os p) i = lastOf os i
  | 0 => rfl
  | i + 1 => by
    show ((plainAt os p).getD i obD).id = (os.getD i obD).id
    rw [plain_getD hp]
    split
    · rename_i e; rw [e]
    · rfl
theorem hok_plain {s f c h : Int} (e : hok s f c h false false = true) (hf : f ≤ 2) : hok s 0 c h false false = true := by
  have h6 : ¬ f = 6 := by omega
  unfold hok at e ⊢
  rw [if_neg h6] at e
  rw [if_neg (by decide)]
  simp only [Bool.and_eq_true] at e ⊢
  exact ⟨⟨⟨by simp, e.1.1.2⟩, e.1.2⟩, e.2⟩
theorem atI_has {os : List Ob} {p : Nat} (hp : p < os.length) : 0 ≤ atI os (os.getD p obD).id := by
  unfold atI
  cases e : os.findIdx? (fun o => o.id == (os.getD p obD).id) with
  | some i => exact Int.natCast_nonneg i
  | none =>
    rw [List.findIdx?_eq_none_iff] at e
    have := e os[p] (List.getElem_mem hp)
    rw [List.getD_eq_getElem?_getD, List.getElem?_eq_getElem hp] at this
    simp at this
theorem right_mourn1 {G : Gr} (h : Right G) {p : Nat} (hp : p < G.objs.length) : Right (mourn1 G p) := by
  have hq := head_parts h.head
  have hids := plain_ids G.objs p
  have hlen := plain_len G.objs p
  have hml : (mourn1 G p).mourned.length ≤ 40 := by
    have : G.mourned.length ≤ 40 := by
      have := h.head
      simp only [gHead, Bool.and_eq_true, decide_eq_true_eq] at this
      exact this.1.1.2
    unfold mourn1
    simp only
    split
    · rw [List.length_append]; simp; omega
    · exact this
  refine ⟨?_, fun i hi => obOk_mk ?_, fun i hi n hn => ?_, fun i hi => ?_, fun i hi => ?_⟩
  · have := h.head
    simp only [gHead, Bool.and_eq_true, decide_eq_true_eq] at this ⊢
    refine ⟨⟨⟨⟨?_, this.1.1.1.2⟩, hml⟩, this.1.2⟩, this.2⟩
    show (plainAt G.objs p).length ≤ 200
    rw [hlen]
    exact this.1.1.1.1
  · have hi' : i < G.objs.length := by rw [← hlen]; exact hi
    have t := obOk_lt (h.ob i hi')
    show lastOf (plainAt G.objs p) i < ((plainAt G.objs p).getD i obD).id ∧ ((plainAt G.objs p).getD i obD).id < G.next ∧ ((plainAt G.objs p).getD i obD).fmt ≤ 2 ∧ hok (((plainAt G.objs p).getD i obD).slots.length : Int) ((plainAt G.objs p).getD i obD).fmt ((plainAt G.objs p).getD i obD).cls ((plainAt G.objs p).getD i obD).hash false false = true
    rw [plain_last hp, plain_getD hp]
    split
    · rename_i e1
      subst e1
      exact ⟨t.1, t.2.1, (by decide : (0 : Int) ≤ 2), hok_plain t.2.2.2 t.2.2.1⟩
    · exact t
  · have hi' : i < G.objs.length := by rw [← hlen]; exact hi
    have hn' : n < ((plainAt G.objs p).getD i obD).slots.length := hn
    show refOk (plainAt G.objs p) (((plainAt G.objs p).getD i obD).slots.getD n refD) = true
    rw [refOk_ids hids]
    have e : ((plainAt G.objs p).getD i obD).slots = (G.objs.getD i obD).slots := by
      rw [plain_getD hp]
      split
      · rename_i e; rw [e]
      · rfl
    rw [e] at hn' ⊢
    exact h.sl i hi' n hn'
  · show refOk (plainAt G.objs p) (G.roots.getD i refD) = true
    rw [refOk_ids hids]
    exact h.root i hi
  · have hm : ∀ x ∈ (mourn1 G p).mourned, x.1 = 2 ∧ refOk (plainAt G.objs p) x = true := by
      intro x hx
      have old : x ∈ G.mourned → x.1 = 2 ∧ refOk (plainAt G.objs p) x = true := fun hx => by
        obtain ⟨j, hj, e⟩ := List.mem_iff_getElem.1 hx
        have := h.mo j hj
        rw [List.getD_eq_getElem?_getD, List.getElem?_eq_getElem hj] at this
        rw [refOk_ids hids, ← e]
        exact this
      unfold mourn1 at hx
      simp only at hx
      split at hx
      · rcases List.mem_append.1 hx with hx | hx
        · exact old hx
        · rw [List.mem_singleton] at hx
          subst hx
          refine ⟨rfl, ?_⟩
          rw [refOk_ids hids]
          unfold refOk
          rw [if_neg (by simp), if_neg (by simp)]
          simp only [Bool.and_eq_true, decide_eq_true_eq]
          exact ⟨rfl, atI_has hp⟩
      · exact old hx
    have hi' : i < (mourn1 G p).mourned.length := hi
    have := hm ((mourn1 G p).mourned[i]) (List.getElem_mem hi')
    rw [List.getD_eq_getElem?_getD, List.getElem?_eq_getElem hi']
    exact this
theorem mourn1_len (G : Gr) (p : Nat) : (mourn1 G p).objs.length = G.objs.length := plain_len _ _
theorem right_mournR : ∀ {ps : List Nat} {G : Gr}, Right G → (∀ p ∈ ps, p < G.objs.length) → Right (mournR G ps)
  | [], _, h, _ => h
  | p :: ps, G, h, hp => right_mournR (ps := ps) (right_mourn1 h (hp p (by simp))) fun q hq => by rw [mourn1_len]; exact hp q (by simp [hq])
/-- How many are of FoEphem. -/
def eph (os : List Ob) : Nat := os.countP fun o => o.fmt == 2
theorem eph_le (os : List Ob) (p : Nat) : eph (plainAt os p) ≤ eph os := by
  unfold eph plainAt
  by_cases h : p < os.length
  · rw [List.countP_set h]
    simp
  · rw [List.set_eq_of_length_le (by omega)]
    exact Nat.le_refl _
theorem eph_lt {os : List Ob} {p : Nat} (h : p < os.length) (e : (os.getD p obD).fmt = 2) : eph (plainAt os p) < eph os := by
  unfold eph plainAt
  have hg : os[p].fmt = 2 := by
    rw [List.getD_eq_getElem?_getD, List.getElem?_eq_getElem h] at e
    exact e
  have hpos : 0 < os.countP fun o => o.fmt == 2 := List.countP_pos_iff.2 ⟨os[p], List.getElem_mem h, by simp [hg]⟩
  rw [List.countP_set h]
  simp [hg]
  omega
theorem eph_mournR : ∀ (ps : List Nat) (G : Gr), eph (mournR G ps).objs ≤ eph G.objs
  | [], _ => Nat.le_refl _
  | p :: ps, G => Nat.le_trans (eph_mournR ps (mourn1 G p)) (eph_le _ _)
theorem mourns_ex : ∀ (n : Nat) {G : Gr}, Right G → eph G.objs ≤ n → ∃ R, Mourns G R
  | n, G, h, hn => by
    obtain ⟨ps, hps⟩ := isG_ex h.gOk
    cases ps with
    | nil => exact ⟨G, [], hps, rfl⟩
    | cons p ps =>
      have hg : Grv G p := (hps.2 p).1 (by simp)
      have lt := eph_lt (grv_lt hg) hg.2.1
      have le : eph (mournR G (p :: ps)).objs ≤ eph (plainAt G.objs p) := eph_mournR ps (mourn1 G p)
      cases n with
      | zero => omega
      | succ n =>
        obtain ⟨R, L, hL⟩ := mourns_ex n (G := mournR G (p :: ps)) (right_mournR h fun q hq => grv_lt ((hps.2 q).1 hq)) (by omega)
        exact ⟨R, (p :: ps) :: L, by simp, hps, hL⟩
theorem rounds_unique : ∀ {L L' : List (List Nat)} {G R R' : Gr}, Rounds L G R → Rounds L' G R' → R = R'
  | [], [], _, _, _, h, k => h.2.trans k.2.symm
  | [], ps :: L', _, _, _, h, k => absurd (isG_unique k.2.1 h.1) k.1
  | ps :: L, [], _, _, _, h, k => absurd (isG_unique h.2.1 k.1) h.1
  | ps :: L, qs :: L', G, _, _, h, k => by
    have e := isG_unique h.2.1 k.2.1
    subst e
    exact rounds_unique h.2.2 k.2.2
theorem mourns_unique {G R R' : Gr} : Mourns G R → Mourns G R' → R = R'
  | ⟨_, h⟩, ⟨_, k⟩ => rounds_unique h k
theorem rounds_right : ∀ {L : List (List Nat)} {G R : Gr}, Right G → Rounds L G R → Right R
  | [], _, _, h, k => by rw [k.2]; exact h
  | ps :: L, G, _, h, k => rounds_right (right_mournR h fun q hq => grv_lt ((k.2.1.2 q).1 hq)) k.2.2
/-- What Mourning answers. -/
def IsMourning (G R : Gr) : Prop := Right G ∧ Mourns G R
end Go.Proofs.Ytfajnnibkcnkaal.gr
namespace Go.Proofs.Ytfajnnibkcnkaal.gr
open Go.RowKit rows heads
set_option maxRecDepth 100000

/-- A new graph. -/
def gNew (x : Int) : Gr × Bool := if inR 0 65535 x = true then (⟨[], List.replicate 6 refD, [], 1, x⟩, true) else (gr0, false)
theorem hR_New (x : Int) : Small (gNew x).1 := by
  unfold gNew
  split
  · intro rs er
    have e : rs = [] := by simpa using er
    subst e
    exact (by decide : gSize [] (⟨[], List.replicate 6 refD, [], 1, 0⟩ : Gr) ≤ 1048576)
  · exact small_zero
end Go.Proofs.Ytfajnnibkcnkaal.gr
namespace Go.Proofs.Ytfajnnibkcnkaal.gr
open Go.RowKit rows heads
set_option maxRecDepth 100000

theorem bel_two {base : Nat} {w W W' : World} (h : Below base w W) (e1 : W'.os = W.os := by rfl) (e2 : W'.tape = W.tape := by rfl) (e3 : W'.output = W.output := by rfl) (e4 : W'.heap = W.heap := by rfl) : Below base w W' := ⟨e1.trans h.os, e2.trans h.tape, e3.trans h.output, by rw [e4]; exact h.size, fun k hk => by rw [e4]; exact h.block k hk⟩
theorem cell_lt {w : World} {b k : Nat} {v : Value} (h : w.cell? ⟨b, k, none⟩ = some v) : b < w.heap.size := by
  rcases Nat.lt_or_ge b w.heap.size with h' | h'
  · exact h'
  · simp [World.cell?, Array.getElem?_eq_none h'] at h
theorem held_base {w : World} {base P : Nat} {G : Gr} (H : Held w base P G) : base ≤ w.heap.size := by
  obtain ⟨_, _, _, _, T, _, _, hb⟩ := H
  have := lt_of_block T
  omega
theorem store_no {G : Gr} {t s f : Int} (h : (inR 0 5 f && slotIn G t s) = false) : store G t s f = (G, false) := by unfold store; rw [h]; rfl
theorem store_yes {G : Gr} {t s f : Int} (h : (inR 0 5 f && slotIn G t s) = true) : store G t s f = ({ G with objs := setSlot G.objs (plc G t) s.toNat (rootAt G f) }, true) := by unfold store; rw [if_pos h]
/-- What there is at a root, and at a slot of the object to which one leads. -/
theorem held_slot {w : World} {base P : Nat} {G : Gr} {x : Int} (H : Held w base P G) (hok : gOk G = true) (hy : leads G x = true) :
    ∃ q0 c0 a2 n2 c2 a3 n3 c3 sa sc ms, Five w P 32 (.slice (some ⟨q0, 0, none⟩) G.objs.length c0) (.slice a2 n2 c2) (.slice a3 n3 c3) (.int .i64 G.next) (.int .i64 G.seed) ∧ OwnG w base (.slice (some ⟨q0, 0, none⟩) G.objs.length c0) (.slice a2 n2 c2) (.slice a3 n3 c3) ms G ∧ P ∉ gblk (.slice (some ⟨q0, 0, none⟩) G.objs.length c0) (.slice a2 n2 c2) (.slice a3 n3 c3) ms ∧ base ≤ P ∧
      (ms.getD (plc G x) moD).sv = .slice sa (G.objs.getD (plc G x) obD).slots.length sc ∧ w.cell? ⟨q0, plc G x * 5, none⟩ = some (.int .i64 (ms.getD (plc G x) moD).id) ∧ w.cell? ⟨q0, plc G x * 5 + 1, none⟩ = some (.int .i64 (ms.getD (plc G x) moD).cls) ∧ w.cell? ⟨q0, plc G x * 5 + 2, none⟩ = some (.int .i64 (ms.getD (plc G x) moD).fmt) ∧ w.cell? ⟨q0, plc G x * 5 + 3, none⟩ = some (.int .i64 (ms.getD (plc G x) moD).hash) ∧ w.cell? ⟨q0, plc G x * 5 + 4, none⟩ = some (.slice sa (G.objs.getD (plc G x) obD).slots.length sc) := by
  obtain ⟨o, r, m, ms, T, O, N, hb⟩ := H
  have hp := (leads_plc hok hy).2
  have hl := own_len O
  have ab := own_abs O (plc G x)
  obtain ⟨a1, n1, c1, a2, n2, c2, a3, n3, c3, e1, e2, e3⟩ := graphAt_slices (ownG_at O)
  subst e1 e2 e3
  obtain ⟨g, cc, eo⟩ : ∃ g c, Value.slice a1 n1 c1 = .slice (some ⟨g, 0, none⟩) ms.length c := by
    obtain ⟨_, ⟨_, h0⟩ | ⟨g, cap, cur, h1, _⟩⟩ := O.2.1.1
    · omega
    · exact ⟨g, cap, h1⟩
  rw [eo, hl] at T O N
  obtain ⟨⟨ao, co, eo', _, _, _, hco⟩, hrefs⟩ := ownO_at O.2.1
  obtain ⟨sa, sc, hsv, _⟩ := hrefs _ (mem_getD (ms := ms) (i := plc G x) (by omega))
  rw [ab] at hsv
  injection eo' with e1 e2 e3
  subst e1 e3
  obtain ⟨b', off', e4, _, hcc⟩ := hco (by omega)
  injection e4 with e4
  injection e4 with e4 e5
  subst e4 e5
  obtain ⟨x0, x1, x2, x3, x4⟩ := hcc (plc G x) (by omega)
  simp only [Nat.zero_add] at x0 x1 x2 x3 x4
  rw [hsv] at x4
  exact ⟨g, cc, a2, n2, c2, a3, n3, c3, sa, sc, ms, T, O, N, hb, hsv, x0, x1, x2, x3, x4⟩

theorem held_setSlot {w : World} {base P : Nat} {o r m : Value} {ms : List MO} {G : Gr} (T : Five w P 32 o r m (.int .i64 G.next) (.int .i64 G.seed)) (O : OwnG w base o r m ms G) (N : P ∉ gblk o r m ms) (hb : base ≤ P) {k : Nat} (hk : k < ms.length) {q n c : Nat} (hv : (ms.getD k moD).sv = .slice (some ⟨q, 0, none⟩) n c) (j : Nat) (e : Rf) :
    Held (put2 w q j e) base P { G with objs := setSlot G.objs k j e } ∧ Below base w (put2 w q j e) := by
  have hq : q ∈ gblk o r m ms := by
    simp only [gblk, blks, List.mem_append, List.mem_flatMap]
    exact .inl (.inl (.inr ⟨_, mem_getD hk, by rw [hv]; simp [blk_some]⟩))
  have hqb : base ≤ q := (ownG_lt O q hq).1
  refine ⟨⟨o, r, m, _, five_ch T (put2_ch w q j e) (fun h => N ((List.mem_singleton.1 h) ▸ hq)), ownG_setSlot O hk hv j e, by unfold gblk; rw [blks_same]; exact N, hb⟩, ?_⟩
  exact ((Below.refl _ w).setCell (p := ⟨q, j * 2, none⟩) hqb _).setCell (p := ⟨q, j * 2 + 1, none⟩) hqb _

end Go.Proofs.Ytfajnnibkcnkaal.gr
