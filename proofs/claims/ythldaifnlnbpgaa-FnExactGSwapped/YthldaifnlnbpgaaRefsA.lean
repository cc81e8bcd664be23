/-
  'append([]Ref{}, list...)': a list of its own, and nothing that there was is changed.
  Made from the template RefsA.
-/
import Derived.Test.YthldaifnlnbpgaaObjs
import Derived.Deep.Upon
namespace Go.Proofs.Ythldaifnlnbpgaa.gr
open Go.RowKit rows
set_option maxRecDepth 100000

theorem refs_news {w : World} {ad : Addr} {n cap : Nat} {es : List Rf} (h : RefsAt w (.slice (some ad) n cap) es) : ∀ j u, (cellsR es)[j]? = some u → w.cell? (ad.add j) = some u := by
  intro j u hj
  obtain ⟨a', cap', e, _, _, _, hc⟩ := h
  injection e with e1 e2 e3
  subst e1
  have hlt : j < es.length * 2 := by
    have := (List.getElem?_eq_some_iff.1 hj).1
    rw [cellsR_length] at this
    exact this
  obtain ⟨b, off, e1, _, hcc⟩ := hc (by omega)
  injection e1 with e1
  subst e1
  have hc := hcc (j / 2) (by omega)
  have ca := cellsR_at es (j / 2) (by omega)
  have hadd : (⟨b, off, none⟩ : Addr).add j = ⟨b, off + j, none⟩ := by unfold Addr.add; split <;> simp_all
  rw [hadd]
  rcases Nat.mod_two_eq_zero_or_one j with hm | hm
  · have ej : j = j / 2 * 2 := by omega
    rw [← ej] at hc ca
    rw [ca.1] at hj
    rw [← hj]
    exact hc.1
  · have ej : j = j / 2 * 2 + 1 := by omega
    have e2 : off + j = off + j / 2 * 2 + 1 := by omega
    rw [← ej] at ca
    rw [ca.2] at hj
    rw [← hj, e2]
    exact hc.2
theorem refs_len {w : World} {a : Option Addr} {n cap : Nat} {es : List Rf} (h : RefsAt w (.slice a n cap) es) : es.length = n ∧ (a = none → n = 0) := by
  obtain ⟨a', cap', e, h1, _, h2, _⟩ := h
  injection e with e1 e2 e3
  subst e1 e2 e3
  exact ⟨rfl, fun ha => by have := h2 ha; omega⟩
theorem src_refs {w : World} {a : Option Addr} {n cap : Nat} {es : List Rf} (h : RefsAt w (.slice a n cap) es) : Src Try.prog 2 28 (.slice a n cap) n (cellsR es) w := by
  obtain ⟨hl, hz⟩ := refs_len h
  cases a with
  | none =>
    have hn := hz rfl
    have e : es = [] := List.eq_nil_of_length_eq_zero (by omega)
    subst e hn
    exact ⟨.inl ⟨_, Try.underlying28⟩, fun w' => by simp [Builtin.lenOf], by simp [Builtin.firstCells, cellsR], by simp [Builtin.firstCells, cellsR], by simp [cellsR], fun u hu => by simp [cellsR] at hu⟩
  | some ad =>
    have hc : (cellsR es).length = n * 2 := by rw [cellsR_length, hl]
    exact ⟨.inl ⟨_, Try.underlying28⟩, fun w' => by simp [Builtin.lenOf], run_firstCells_some w 2 n ad n cap (cellsR es) hc (refs_news h), run_firstCells_some w.drew 2 n ad n cap (cellsR es) hc (refs_news (w := w.drew) h), hc, cellsR_one es⟩

/-- Onto an empty list of no room. -/
theorem run_app0 {w : World} {g : Nat} {a : Option Addr} {n cap : Nat} {es : List Rf} (h : RefsAt w (.slice a n cap) es) (hl : n ≤ 1048576) (hg : w.heap[g]? = some (.cells #[] 47 (0, 0))) (ty : TypeId) :
    ∃ (q c : Nat) (w' : World), (Builtin.append_ #[28, 28] ty #[.slice (some ⟨g, 0, none⟩) 0 0, .slice a n cap]).run Try.prog w = .ok (.slice (some ⟨q, 0, none⟩) n c) w' ∧ (q = g ∨ w.heap.size ≤ q) ∧ (∀ base, base ≤ q → OwnR w' base (.slice (some ⟨q, 0, none⟩) n c) es) ∧ Below w.heap.size w w' := by
  obtain ⟨i0, hi, hz0, hz1, hz2⟩ := info_parts infoR
  have S := src_refs h
  obtain ⟨hlen, _⟩ := refs_len h
  have ho : ∀ {w' : World} {q c base : Nat} (cur : Array Value), base ≤ q → w'.heap[q]? = some (.cells cur 47 (0, 0)) → n ≤ c → c ≤ maxLen → cur.size = c * 2 → cur.toList.take (n * 2) = cellsR es → OwnR w' base (.slice (some ⟨q, 0, none⟩) n c) es := by
    intro w' q c base cur h1 h2 h3 h4 h5 h6
    unfold OwnR
    rw [hlen]
    exact ⟨by rw [cellsR_length, hlen], .inr ⟨q, c, cur, rfl, h1, h2, h3, h4, h5, h6⟩⟩
  rcases Nat.eq_zero_or_pos n with h0 | hp
  · subst h0
    have e : es = [] := List.eq_nil_of_length_eq_zero hlen
    subst e
    have hr := run_append_nothing w 28 28 ty 47 i0 Try.underlying28 hi (some ⟨g, 0, none⟩) 0 0 (Nat.le_refl _) (.slice a 0 cap) (by rw [hz1]; exact S)
    exact ⟨g, 0, w, hr, .inl rfl, fun base hb => ho #[] hb hg (Nat.le_refl _) (by decide) rfl rfl, Below.refl _ _⟩
  · have hold : (Builtin.firstCells i0.size 0 (.slice (some ⟨g, 0, none⟩) 0 0)).run Try.prog w.drew = .ok ([] : List Value).toArray w.drew := run_firstCells_some w.drew i0.size 0 ⟨g, 0, none⟩ 0 0 [] (by simp) (fun j v hj => by simp at hj)
    have hr := run_append_grow_src w 28 28 ty 47 i0 (.agg #[.int .i64 0, .int .i64 0]) Try.underlying28 hi hz0 (some ⟨g, 0, none⟩) 0 0 [] hold (.slice a n cap) n (cellsR es) (by rw [hz1]; exact S) (by omega) (by omega) (by rw [hz2]; exact growslice_fits (by omega) (by omega))
    have hge := grownCap_ge w (0 + n) 0 47
    have hcm : grownCap w (0 + n) 0 47 ≤ maxLen := grownCap_le_maxLen w (0 + n) 0 47 (by unfold maxLen; omega)
    rw [Nat.zero_add] at hr hge hcm
    refine ⟨w.heap.size, _, _, hr, .inr (Nat.le_refl _), fun base hb => ho _ hb (heap_alloc_new w.drew _) hge hcm ?_ ?_, ⟨rfl, rfl, rfl, by simp, fun j hj => Below.heap_alloc w.drew _ j hj⟩⟩
    · simp [Builtin.zeroCells, Value.cells, cellsR_length, hlen]
      omega
    · simp only [List.nil_append, Array.toList_append]
      exact List.take_left' (by rw [cellsR_length, hlen])
end Go.Proofs.Ythldaifnlnbpgaa.gr
