/-
  Chapter 7: an object of a graph of the call's own is made plain where it lies.
  Made from the template ReachH.
-/
import Derived.Test.YtdogibjgogcdkabReachK
import Derived.Test.YtdogibjgogcdkabHeldObj
namespace Go.Proofs.Ytdogibjgogcdkab.gr
open Go.RowKit rows heads
set_option maxRecDepth 100000
set_option linter.unusedVariables false

def plainM (ms : List MO) (p : Nat) : List MO := ms.set p { ms.getD p moD with fmt := 0 }
theorem plainM_cells : ∀ (ms : List MO) (p : Nat), p < ms.length → cellsO (plainM ms p) = (cellsO ms).set (p * 5 + 2) (.int .i64 0)
  | [], p, h => absurd h (Nat.not_lt_zero _)
  | m :: ms, 0, _ => rfl
  | m :: ms, p + 1, h => by
    have e : plainM (m :: ms) (p + 1) = m :: plainM ms p := rfl
    rw [e]
    show (.int .i64 m.id :: .int .i64 m.cls :: .int .i64 m.fmt :: .int .i64 m.hash :: m.sv :: cellsO (plainM ms p) : List Value) = _
    rw [plainM_cells ms p (by simpa using h), show (p + 1) * 5 + 2 = (p * 5 + 2) + 1 + 1 + 1 + 1 + 1 by omega]
    rfl
theorem plainM_abs : ∀ (ms : List MO) (p : Nat), (plainM ms p).map MO.abs = plainAt (ms.map MO.abs) p
  | [], p => rfl
  | m :: ms, 0 => rfl
  | m :: ms, p + 1 => by
    show m.abs :: (plainM ms p).map MO.abs = m.abs :: plainAt (ms.map MO.abs) p
    rw [plainM_abs ms p]
theorem plainM_blks : ∀ (ms : List MO) (p : Nat), blks (plainM ms p) = blks ms
  | [], p => rfl
  | m :: ms, 0 => rfl
  | m :: ms, p + 1 => by
    show blk m.sv ++ blks (plainM ms p) = blk m.sv ++ blks ms
    rw [plainM_blks ms p]
theorem plainM_mem : ∀ (ms : List MO) (p : Nat), ∀ m' ∈ plainM ms p, ∃ m ∈ ms, m'.sv = m.sv ∧ m'.slots = m.slots
  | [], p, m', h => by cases h
  | m :: ms, 0, m', h => by
    rcases List.mem_cons.1 h with rfl | h
    · exact ⟨m, by simp, rfl, rfl⟩
    · exact ⟨m', by simp [h], rfl, rfl⟩
  | m :: ms, p + 1, m', h => by
    rcases List.mem_cons.1 h with rfl | h
    · exact ⟨_, by simp, rfl, rfl⟩
    · obtain ⟨x, hx, e⟩ := plainM_mem ms p m' h
      exact ⟨x, by simp [hx], e⟩
theorem held_plain {w : World} {base P : Nat} {G : Gr} (H : Held w base P G) {p : Nat} (hi : p < G.objs.length) : ∃ q0 c0, w.cell? ⟨P, 0, none⟩ = some (.slice (some ⟨q0, 0, none⟩) G.objs.length c0) ∧ w.cell? ⟨q0, p * 5, none⟩ = some (.int .i64 (G.objs.getD p obD).id) ∧ (∃ u, w.cell? ⟨q0, p * 5 + 2, none⟩ = some (.int .i64 u)) ∧ w.frozen? ⟨q0, p * 5 + 2, none⟩ = false ∧ P ≠ q0 ∧ q0 < w.heap.size ∧ Held (w.setCell ⟨q0, p * 5 + 2, none⟩ (.int .i64 0)) base P { G with objs := plainAt G.objs p } ∧ Below base w (w.setCell ⟨q0, p * 5 + 2, none⟩ (.int .i64 0)) := by
  obtain ⟨q0, c0, r1, r2, r3, m1, m2, m3, ms, sa, sc, T, O, N, hb, him, _, hid, _⟩ := held_obj H hi
  obtain ⟨z0, _, _, _, _, _⟩ := five_cells T
  have hq : q0 ∈ gblk (.slice (some ⟨q0, 0, none⟩) G.objs.length c0) (.slice r1 r2 r3) (.slice m1 m2 m3) ms := by simp only [gblk, List.mem_append]; exact .inl (.inl (.inl (by simp [blk_some])))
  have hqb := ownG_lt O q0 hq
  have nP : P ≠ q0 := fun e => N (e ▸ hq)
  have hidg : (ms.getD p moD).id = (G.objs.getD p obD).id := by rw [← O.1, abs_getD]; rfl
  rw [hidg] at hid
  obtain ⟨⟨a0, c0', e, _, _, _, hco⟩, _⟩ := ownO_at O.2.1
  injection e with e4 e5 e6
  obtain ⟨b', off', e7, _, hcc⟩ := hco (by omega)
  have e8 := e4.trans e7
  injection e8 with e8
  injection e8 with e8 e9
  obtain ⟨_, _, y2, _, _⟩ := hcc p him
  rw [← e8, ← e9] at y2
  simp only [Nat.zero_add] at y2
  have CH := one_ch w q0 (p * 5 + 2) (.int .i64 0)
  obtain ⟨h1, ⟨h2, h2b, h2c⟩, h3, h4, h5⟩ := O
  have fz := row_frozen h2 (p * 5 + 2)
  have h5' := h5
  simp only [gblk, blk_some, List.nodup_append, List.mem_append, List.mem_singleton] at h5'
  refine ⟨q0, c0, z0, hid, ⟨_, y2⟩, fz, nP, hqb.2, ?_, (Below.refl _ w).setCell (p := ⟨q0, p * 5 + 2, none⟩) hqb.1 _⟩
  have hr := row_set h2 rfl (p * 5 + 2) (.int .i64 0)
  have hbk := plainM_blks ms p
  refine ⟨_, _, _, plainM ms p, five_ch T CH (fun e => nP (List.mem_singleton.1 e)), ⟨?_, ⟨?_, fun m' hm' => ?_, ?_⟩, row_ch h3 CH (fun k hk e => ?_), row_ch h4 CH (fun k hk e => ?_), ?_⟩, ?_, hb⟩
  · rw [plainM_abs, h1]
  · unfold OwnRow
    rw [plainM_cells ms p him, show (plainM ms p).length = ms.length by simp [plainM]]
    exact hr
  · obtain ⟨m0, hm0, e1, e2⟩ := plainM_mem ms p m' hm'
    rw [e1, e2]
    refine row_ch (h2b m0 hm0) CH (fun k hk e => ?_)
    rw [List.mem_singleton] at e
    exact h5'.1.1.2.2 q0 rfl k (by simp only [blks, List.mem_flatMap]; exact ⟨m0, hm0, hk⟩) e.symm
  · rw [hbk]; exact h2c
  · rw [List.mem_singleton] at e
    exact h5'.1.2.2 q0 (.inl rfl) k hk e.symm
  · rw [List.mem_singleton] at e
    exact h5'.2.2 q0 (.inl (.inl rfl)) k hk e.symm
  · simp only [gblk, hbk]; exact h5
  · simp only [gblk, hbk]; exact N
end Go.Proofs.Ytdogibjgogcdkab.gr
