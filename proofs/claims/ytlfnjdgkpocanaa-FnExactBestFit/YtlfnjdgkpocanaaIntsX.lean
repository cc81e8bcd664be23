/-
  The laws' own helpers on lists of numbers: a copy, a comparison, marks written and found again.
  Made from the template IntsX.
-/
import Derived.Test.YtlfnjdgkpocanaaInts
namespace Go.Proofs.Ytlfnjdgkpocanaa.rows
open Go.RowKit

theorem set_take {xs : List Int} {k : Nat} (h : k < xs.length) : (xs.take k ++ List.replicate (xs.length - k) 0).set k (xs.getD k 0) = xs.take (k + 1) ++ List.replicate (xs.length - (k + 1)) 0 := by
  apply List.ext_getElem?
  intro i
  simp only [List.getElem?_set, List.getElem?_append, List.length_take, List.getElem?_take, List.getElem?_replicate, List.length_append, List.length_replicate]
  rcases Nat.lt_trichotomy i k with hi | hi | hi
  · grind
  · grind
  · grind

set_option maxHeartbeats 1000000 in
theorem toInt64S_any {w : World} {v : Value} {xs : List Int} (h : IntsAt w v xs) (hl : xs.length ≤ 1048576) :
    Calls Try.prog 15 #[v] w fun e w' => e = .returned (.slice (some ⟨w.heap.size, 0, none⟩) xs.length xs.length) ∧ Full w' w.heap.size xs ∧ Below w.heap.size w w' := by
  obtain ⟨a, cap, rfl, hlc, hcm, _, hc⟩ := h
  obtain ⟨i0, hi, hz0, hz1, hz2⟩ := info_parts info
  have HC : Hid (0 < xs.length → ∃ b off, a = some ⟨b, off, none⟩ ∧ b < w.heap.size ∧ ∀ i, i < xs.length → w.cell? ⟨b, off + i, none⟩ = some (.int .i64 (xs.getD i 0))) := hc
  clear hc
  go_enter Try.func15, Try.ntmps15
  go_wp2_with (at_make; refine wpList_make_full _ rfl _ _ 24 rfl w.heap.size 2 i0 (.int .i64 0) 1 Try.underlying24 hi hz0 hz1 _ _ _ _ xs.length rfl rfl rfl rfl (by rw [hz2]; omega) (by unfold maxLen; omega) (Nat.le_refl _) ?_; intro w1 hown hgrow)
  have F : Full w1 w.heap.size (xs.take 0 ++ List.replicate (xs.length - 0) 0) := own_full hown (by simp [cellsOf, toList_madeCells_one, Value.cells])
  have B : Below w.heap.size w w1 := (Below.refl _ _).grown hgrow (Nat.le_refl _) (fun k e => by cases e)
  clear hown hgrow hi hz0 hz1 hz2
  go_loopw [4] (fun i wr => ∃ k : Nat, k ≤ xs.length ∧ i = .int .i64 k ∧ Full wr w.heap.size (xs.take k ++ List.replicate (xs.length - k) 0) ∧ Below w.heap.size w wr) (fun i _ => xs.length - (intOf i).toNat)
  case atStart => exact ⟨0, Nat.zero_le _, rfl, F, B⟩
  case round =>
    obtain ⟨k, hk, rfl, Fr, Br⟩ := hrel
    by_cases hlt : k < xs.length
    · obtain ⟨b, off, rfl, hb, hc⟩ := HC.out (by omega)
      have c0 : wr.cell? ⟨b, off + k, none⟩ = some (.int .i64 (xs.getD k 0)) := (Br.cell (p := ⟨b, off + k, none⟩) hb).trans (hc k hlt)
      have c1 : wr.cell? ⟨w.heap.size, k, none⟩ = some (.int .i64 ((xs.take k ++ List.replicate (xs.length - k) 0).getD k 0)) := full_cell Fr (by simp; omega)
      have c2 := full_frozen Fr k
      have F2 := full_set Fr k (xs.getD k 0)
      rw [set_take hlt] at F2
      have B2 : Below w.heap.size w (wr.setCell ⟨w.heap.size, k, none⟩ (.int .i64 (xs.getD k 0))) := Br.setCell (Nat.le_refl _) _
      have HF : Hid _ := F2
      have HB : Hid _ := B2
      clear F2 B2 Fr Br hc F B
      generalize xs.getD k 0 = x at *
      generalize (xs.take k ++ List.replicate (xs.length - k) 0).getD k 0 = y at *
      go_wp2
      exact ⟨⟨k + 1, by omega, by go_num, HF, HB⟩, by simp [intOf]; omega⟩
    · have e : k = xs.length := by omega
      subst e
      have F0 : Full wr w.heap.size xs := by simpa using Fr
      have HF : Hid (Full wr w.heap.size xs) := F0
      have HB : Hid (Below w.heap.size w wr) := Br
      clear Fr Br F B F0
      go_wp2
      go_ret
      exact ⟨rfl, HF, HB⟩

set_option maxHeartbeats 1000000 in
theorem eqInt64S_any {w : World} {v1 v2 : Value} {xs ys : List Int} (h1 : IntsAt w v1 xs) (h2 : IntsAt w v2 ys) (hl : xs.length ≤ 1048576) :
    Calls Try.prog 16 #[v1, v2] w fun e w' => e = .returned (.bool (decide (xs = ys))) ∧ ∃ n, w' = w.drewN n := by
  obtain ⟨a, cap, rfl, hlc, hcm, _, hc⟩ := h1
  obtain ⟨a', cap', rfl, hlc', hcm', _, hc'⟩ := h2
  by_cases hn : xs.length = ys.length
  · have HC : Hid (0 < xs.length → ∃ b off, a = some ⟨b, off, none⟩ ∧ b < w.heap.size ∧ ∀ i, i < xs.length → w.cell? ⟨b, off + i, none⟩ = some (.int .i64 (xs.getD i 0))) := hc
    have HC' : Hid (0 < ys.length → ∃ b off, a' = some ⟨b, off, none⟩ ∧ b < w.heap.size ∧ ∀ i, i < ys.length → w.cell? ⟨b, off + i, none⟩ = some (.int .i64 (ys.getD i 0))) := hc'
    clear hc hc'
    have hni : (xs.length : Int) = (ys.length : Int) := by omega
    go_enter Try.func16, Try.ntmps16
    go_wp2_with fail
    go_loopw [5] (fun i wr => ∃ k n : Nat, k ≤ xs.length ∧ i = .int .i64 k ∧ xs.take k = ys.take k ∧ wr = w.drewN n) (fun i _ => xs.length - (intOf i).toNat)
    case atStart => exact ⟨0, 0, Nat.zero_le _, rfl, by simp, rfl⟩
    case round =>
      obtain ⟨k, n, hk, rfl, ht, rfl⟩ := hrel
      by_cases hlt : k < xs.length
      · obtain ⟨b, off, rfl, hb, hc⟩ := HC.out (by omega)
        obtain ⟨b', off', rfl, hb', hc'⟩ := HC'.out (by omega)
        have c0 := hc k hlt
        have c1 := hc' k (by omega)
        have HT : Hid (xs.getD k 0 = ys.getD k 0 → xs.take (k + 1) = ys.take (k + 1)) := fun e => take_succ_eq ht hlt (by omega) e
        have HN : Hid (¬ xs.getD k 0 = ys.getD k 0 → decide (xs = ys) = false) := fun e => by simp only [decide_eq_false_iff_not]; intro e'; subst e'; exact e rfl
        clear hc hc' ht HC HC'
        have hlt' : k < ys.length := by omega
        generalize xs.getD k 0 = x at *
        generalize ys.getD k 0 = y at *
        by_cases hxy : x = y
        · go_wp2
          go_quiet (fail)
          go_wp2
          exact ⟨⟨k + 1, n + nq, by omega, by go_num, HT hxy, rfl⟩, by simp [intOf]; omega⟩
        · go_wp2
          go_quiet (fail)
          go_wp2
          go_ret
          exact ⟨by rw [HN hxy]; rfl, n + nq, by rw [World.drewN_drewN]⟩
      · have e : xs = ys := by
          have e1 : xs.take k = xs := List.take_of_length_le (by omega)
          have e2 : ys.take k = ys := List.take_of_length_le (by omega)
          rw [← e1, ht, e2]
        have HE : Hid (decide (xs = ys) = true) := by show _ = true; simpa using e
        clear ht e HC HC'
        go_wp2
        go_ret
        exact ⟨by rw [HE.out]; rfl, _, rfl⟩
  · have hni : ¬ (xs.length : Int) = (ys.length : Int) := by omega
    clear hc hc'
    go_enter Try.func16, Try.ntmps16
    go_wp2
    go_ret
    exact ⟨by rw [decide_eq_false (fun e => hn (by rw [e]))]; rfl, 0, rfl⟩

/-- The numbers from k on. -/
def marks (k : Int) (n : Nat) : List Int := (List.range n).map (fun i : Nat => k + (i : Int))
theorem marks_length (k : Int) (n : Nat) : (marks k n).length = n := by simp [marks]
theorem marks_getD (k : Int) {n i : Nat} (h : i < n) : (marks k n).getD i 0 = k + i := by simp [marks, List.getD_eq_getElem?_getD, h]
theorem marks_set {xs : List Int} {k : Nat} (k0 : Int) (h : k < xs.length) : (marks k0 k ++ xs.drop k).set k (k0 + (k : Int)) = marks k0 (k + 1) ++ xs.drop (k + 1) := by
  apply List.ext_getElem?
  intro i
  simp only [marks, List.getElem?_set, List.getElem?_append, List.length_map, List.length_range, List.getElem?_map, List.getElem?_drop, List.length_append, List.length_drop]
  grind

end Go.Proofs.Ytlfnjdgkpocanaa.rows
