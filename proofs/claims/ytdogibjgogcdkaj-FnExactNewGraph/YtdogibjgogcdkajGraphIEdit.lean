/-
  Chapter 6 as the program has it: a graph copied whole.
  Made from the template GraphIEdit.
-/
import Derived.Test.YtdogibjgogcdkajGraphE
import Derived.Test.YtdogibjgogcdkajGraphICopy
namespace Go.Proofs.Ytdogibjgogcdkaj.gr
open Go.RowKit rows heads
set_option maxRecDepth 100000

theorem cellsO_sv : ∀ (ms : List MO) (k : Nat) (v : Value), k < ms.length → (cellsO ms).set (k * 5 + 4) v = cellsO (ms.set k { ms.getD k moD with sv := v })
  | [], _, _, h => by simp at h
  | m :: ms, 0, v, _ => by simp [cellsO]
  | m :: ms, k + 1, v, h => by
    have := cellsO_sv ms k v (by simpa using h)
    rw [show (k + 1) * 5 + 4 = k * 5 + 4 + 1 + 1 + 1 + 1 + 1 by omega]
    simpa [cellsO] using this
theorem fullO_sv {w : World} {b : Nat} {ms : List MO} (h : FullO w b ms) {k : Nat} (hk : k < ms.length) (v : Value) : FullO (w.setCell ⟨b, k * 5 + 4, none⟩ v) b (ms.set k { ms.getD k moD with sv := v }) := by
  refine (cells_setCell h (k * 5 + 4) v).trans ?_
  rw [← cellsO_sv ms k v hk]
  simp
theorem fullR_ch {S : List Nat} {w w' : World} {b : Nat} {es : List Rf} (h : FullR w b es) (hc : Ch S w w') (hb : b ∉ S) : FullR w' b es := (hc.block b (lt_of_block h) hb).trans h

/-- A copy under way: k objects have lists of their own. -/
structure CG (w : World) (n0 P R q1 q2 q3 : Nat) (ms : List MO) (G : Gr) (k : Nat) (ns : List MO) (wr : World) : Prop where
  len : ns.length = ms.length
  abs : ns.map MO.abs = ms.map MO.abs
  full : FullO wr q3 ns
  own : ∀ i, i < k → OwnR wr n0 (ns.getD i moD).sv (ns.getD i moD).slots
  rest : ∀ i, k ≤ i → i < ms.length → ns.getD i moD = ms.getD i moD
  nd : ([P, R, q1, q2, q3] ++ blks (ns.take k)).Nodup
  lt : ∀ x ∈ [P, R, q1, q2, q3] ++ blks (ns.take k), n0 ≤ x ∧ x < wr.heap.size
  gr : Five wr P 47 (.slice (some ⟨q3, 0, none⟩) ms.length ms.length) (.slice (some ⟨q1, 0, none⟩) G.roots.length G.roots.length) (.slice (some ⟨q2, 0, none⟩) G.mourned.length G.mourned.length) (.int .i64 G.next) (.int .i64 G.seed)
  res : Five wr R 47 (.slice none 0 0) (.slice none 0 0) (.slice none 0 0) (.int .i64 0) (.int .i64 0)
  r1 : FullR wr q1 G.roots
  r2 : FullR wr q2 G.mourned
  bel : Below n0 w wr

theorem take_set_succ {ns : List MO} {k : Nat} (hk : k < ns.length) (m : MO) : (ns.set k m).take (k + 1) = ns.take k ++ [m] := by
  rw [List.take_add_one, List.take_set_of_le (Nat.le_refl _)]
  simp [hk]

theorem CG.step {w : World} {n0 P R q1 q2 q3 : Nat} {ms : List MO} {G : Gr} {k : Nat} {ns : List MO} {wr w2 : World} (h : CG w n0 P R q1 q2 q3 ms G k ns wr) (hk : k < ms.length) (hn : n0 ≤ wr.heap.size)
    (hl : (ms.getD k moD).slots.length ≤ maxLen) (b2 : Below wr.heap.size wr w2) (F2 : FullR w2 wr.heap.size (ms.getD k moD).slots) :
    ∃ ns', CG w n0 P R q1 q2 q3 ms G (k + 1) ns' (w2.setCell ⟨q3, k * 5 + 4, none⟩ (.slice (some ⟨wr.heap.size, 0, none⟩) (ms.getD k moD).slots.length (ms.getD k moD).slots.length)) := by
  generalize hv : Value.slice (some ⟨wr.heap.size, 0, none⟩) (ms.getD k moD).slots.length (ms.getD k moD).slots.length = v
  have hkn : k < ns.length := by rw [h.len]; exact hk
  have hxk := h.rest k (Nat.le_refl _) hk
  have CH := one_ch w2 q3 (k * 5 + 4) v
  have hq3 : q3 < wr.heap.size := (h.lt q3 (by simp)).2
  have nd := h.nd
  have eb : blk v = [wr.heap.size] := by rw [← hv]; rfl
  have hget : ∀ i, i < ms.length → (ns.set k { ns.getD k moD with sv := v }).getD i moD = if i = k then { ns.getD k moD with sv := v } else ns.getD i moD := fun i hi => by
    rw [List.getD_eq_getElem?_getD, List.getElem?_set]
    by_cases e : k = i
    · subst e
      simp [hkn]
    · rw [if_neg e, if_neg (fun e' => e e'.symm), List.getD_eq_getElem?_getD]
  have etk : blks ((ns.set k { ns.getD k moD with sv := v }).take (k + 1)) = blks (ns.take k) ++ [wr.heap.size] := by
    rw [take_set_succ hkn, blks_snoc]
    show _ ++ blk v = _
    rw [eb]
  have ne3 : ∀ x, x = P ∨ x = R ∨ x = q1 ∨ x = q2 ∨ x ∈ blks (ns.take k) ∨ x = wr.heap.size → x ≠ q3 := by
    intro x hx e
    subst e
    simp only [List.cons_append, List.nil_append, List.nodup_cons, List.mem_cons, not_or] at nd
    rcases hx with hx | hx | hx | hx | hx | hx
    · exact nd.1.2.2.2.1 hx.symm
    · exact nd.2.1.2.2.1 hx.symm
    · exact nd.2.2.1.2.1 hx.symm
    · exact nd.2.2.2.1.1 hx.symm
    · exact nd.2.2.2.2.1 hx
    · omega
  have notS : ∀ x, x ≠ q3 → x ∉ [q3] := fun x hx e => hx (List.mem_singleton.1 e)
  refine ⟨ns.set k { ns.getD k moD with sv := v }, by rw [List.length_set]; exact h.len, ?_, fullO_sv (fullO_below h.full b2) hkn v, fun i hi => ?_, fun i h1 h2 => ?_, ?_, fun x hx => ?_, ?_, ?_, ?_, ?_, ?_⟩
  · rw [← h.abs]
    apply List.ext_getElem?
    intro i
    rw [List.getElem?_map, List.getElem?_map, List.getElem?_set]
    by_cases e : k = i
    · subst e
      rw [if_pos rfl, if_pos hkn, getD_getElem? hkn]
      rfl
    · rw [if_neg e]
  · rw [hget i (by omega)]
    by_cases e : i = k
    · subst e
      rw [if_pos rfl]
      show OwnR _ _ v (ns.getD i moD).slots
      have F3 := fullR_own (fullR_ch F2 CH (notS _ (ne3 _ (.inr (.inr (.inr (.inr (.inr rfl)))))))) hn hl
      rw [hv] at F3
      rw [hxk]
      exact F3
    · rw [if_neg e]
      have hi' : i < k := by omega
      refine row_ch (ownR_below (h.own i hi') b2) CH (fun x hx => notS x (ne3 x (.inr (.inr (.inr (.inr (.inl ?_)))))))
      simp only [blks, List.mem_flatMap]
      refine ⟨ns.getD i moD, ?_, hx⟩
      rw [List.mem_take_iff_getElem]
      exact ⟨i, by omega, by rw [List.getD_eq_getElem?_getD, List.getElem?_eq_getElem (by omega)]; rfl⟩
  · rw [hget i h2, if_neg (by omega)]
    exact h.rest i (by omega) h2
  · rw [etk, ← List.append_assoc, List.nodup_append]
    refine ⟨nd, by simp, fun a ha b hb e => ?_⟩
    have := (h.lt a ha).2
    rw [List.mem_singleton] at hb
    omega
  · rw [etk, ← List.append_assoc, List.mem_append] at hx
    have sz : (w2.setCell ⟨q3, k * 5 + 4, none⟩ v).heap.size = w2.heap.size := by simp
    have l2 := lt_of_block F2
    rcases hx with hx | hx
    · have := h.lt x hx
      have := b2.size
      omega
    · rw [List.mem_singleton] at hx
      omega
  · exact five_ch (five_below h.gr b2) CH (notS _ (ne3 _ (.inl rfl)))
  · exact five_ch (five_below h.res b2) CH (notS _ (ne3 _ (.inr (.inl rfl))))
  · exact fullR_ch (fullR_below h.r1 b2) CH (notS _ (ne3 _ (.inr (.inr (.inl rfl)))))
  · exact fullR_ch (fullR_below h.r2 b2) CH (notS _ (ne3 _ (.inr (.inr (.inr (.inl rfl))))))
  · exact (h.bel.trans (b2.mono hn)).setCell (p := ⟨q3, k * 5 + 4, none⟩) (h.lt q3 (by simp)).1 v

theorem CG.done {w : World} {n0 P R q1 q2 q3 : Nat} {ms : List MO} {G : Gr} {ns : List MO} {wr : World} (h : CG w n0 P R q1 q2 q3 ms G ms.length ns wr) (ea : ms.map MO.abs = G.objs) (l1 : ms.length ≤ maxLen) (l2 : G.roots.length ≤ maxLen) (l3 : G.mourned.length ≤ maxLen) :
    OwnG wr n0 (.slice (some ⟨q3, 0, none⟩) ms.length ms.length) (.slice (some ⟨q1, 0, none⟩) G.roots.length G.roots.length) (.slice (some ⟨q2, 0, none⟩) G.mourned.length G.mourned.length) ns G := by
  have et : ns.take ms.length = ns := by rw [← h.len, List.take_length]
  have nd := h.nd
  rw [et] at nd
  have lt := h.lt
  rw [et] at lt
  simp only [List.cons_append, List.nil_append, List.nodup_cons, List.mem_cons, not_or] at nd
  obtain ⟨_, _, ⟨a1, a2, a3⟩, ⟨b1, b2⟩, c1, c2⟩ := nd
  refine ⟨h.abs.trans ea, ⟨?_, fun m hm => ?_, ?_⟩, fullR_own h.r1 (lt q1 (by simp)).1 l2, fullR_own h.r2 (lt q2 (by simp)).1 l3, ?_⟩
  · have := fullO_own h.full (lt q3 (by simp)).1 (by rw [h.len]; exact l1)
    rw [h.len] at this
    exact this
  · obtain ⟨i, hi, rfl⟩ := List.getElem_of_mem hm
    have := h.own i (by rw [← h.len]; exact hi)
    rw [List.getD_eq_getElem?_getD, List.getElem?_eq_getElem hi] at this
    exact this
  · show ([q3] ++ blks ns).Nodup
    rw [List.singleton_append, List.nodup_cons]
    exact ⟨c1, c2⟩
  · show ([q3] ++ blks ns ++ [q1] ++ [q2]).Nodup
    simp only [List.nodup_append, List.mem_append, List.mem_singleton]
    refine ⟨⟨⟨by simp, c2, fun a ha b hb e => ?_⟩, by simp, fun a ha b hb e => ?_⟩, by simp, fun a ha b hb e => ?_⟩
    · subst ha e; exact c1 hb
    · subst hb e
      rcases ha with ha | ha
      · exact a2 ha
      · exact a3 ha
    · subst hb e
      rcases ha with (ha | ha) | ha
      · exact b1 ha
      · exact b2 ha
      · exact a1 ha.symm

end Go.Proofs.Ytdogibjgogcdkaj.gr
