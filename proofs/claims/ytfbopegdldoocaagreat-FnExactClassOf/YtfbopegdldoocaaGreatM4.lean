/-
  The functions of chapter 1 once more, each by one contract for every argument. A heap as it lies: nine fields, four of them lists of numbers. The laws' own helpers on lists of numbers: a copy, a comparison, marks written and found again. Heaps of a call's own, and what may change beside them. Who owns which block: what is owned stays where another's block is written. What a law on an answer that is a list needs.
-/
import Derived.Test.YtfbopegdldoocaaGreatM2
import Derived.Test.YtfbopegdldoocaaGreatM3
namespace Go.Proofs.YtfbopegdldoocaaGreat.words
open Go.RowKit

def iv (n : Int) : Int := if isI n then n / 4 else 0
def av (n : Int) : Int := if isA n then n / 4 - 1 else 0
def oi (n : Int) : Int := if -100000 ≤ n ∧ n ≤ 100000 then n * 4 + 1 else 2
def oa (a : Int) : Int := if 0 ≤ a ∧ a ≤ 999 then (a + 1) * 4 else 2

theorem oi_bd (n : Int) : -9223372036854775808 ≤ oi n ∧ oi n ≤ 9223372036854775807 := by
  unfold oi; split <;> omega
theorem oa_bd (n : Int) : -9223372036854775808 ≤ oa n ∧ oa n ≤ 9223372036854775807 := by
  unfold oa; split <;> omega

theorem addrOf_any (n : Int) (w : World) (b1 : -9223372036854775808 ≤ n) (b2 : n ≤ 9223372036854775807) :
    Calls Tryz.prog 73 #[.int .i64 n] w fun e w' => e = .returned (.tuple #[.int .i64 (av n), .bool (isA n)]) ∧ w' = w := by
  cases hi : isA n
  · have e : av n = 0 := by simp [av, hi]
    rw [e]; exact addrOf_no n w b1 b2 hi
  · have e : av n = n / 4 - 1 := by simp [av, hi]
    rw [e]; exact addrOf_yes n w b1 b2 hi
theorem sIntOf_any (n : Int) (w : World) :
    Calls Tryz.prog 95 #[.int .i64 n] w fun e w' => e = .returned (.tuple #[.int .i64 (iv n), .bool (isI n)]) ∧ w' = w := by
  cases hi : isI n
  · have e : iv n = 0 := by simp [iv, hi]
    rw [e]; exact sIntOf_no n w hi
  · have e : iv n = n / 4 := by simp [iv, hi]
    rw [e]; exact sIntOf_yes n w hi
theorem sAddrOf_any (n : Int) (w : World) :
    Calls Tryz.prog 34 #[.int .i64 n] w fun e w' => e = .returned (.tuple #[.int .i64 (av n), .bool (isA n)]) ∧ w' = w := by
  cases hi : isA n
  · have e : av n = 0 := by simp [av, hi]
    rw [e]; exact sAddrOf_no n w hi
  · have e : av n = n / 4 - 1 := by simp [av, hi]
    rw [e]; exact sAddrOf_yes n w hi
theorem oi_iv {n : Int} (h : isI n = true) : oi (iv n) = n := by
  have h1 := isI_true h
  rw [show iv n = n / 4 from if_pos h, show oi (n / 4) = n / 4 * 4 + 1 from if_pos (by omega)]
  omega
theorem oa_av {n : Int} (h : isA n = true) : oa (av n) = n := by
  have h1 := isA_true h
  rw [show av n = n / 4 - 1 from if_pos h, show oa (n / 4 - 1) = (n / 4 - 1 + 1) * 4 from if_pos (by omega)]
  omega
theorem isI_oi_yes {n : Int} (h1 : -100000 ≤ n) (h2 : n ≤ 100000) : isI (oi n) = true ∧ iv (oi n) = n := by
  have e : oi n = n * 4 + 1 := if_pos ⟨h1, h2⟩
  have hi : isI (n * 4 + 1) = true := by simp [isI]; omega
  rw [e]
  exact ⟨hi, by rw [show iv (n * 4 + 1) = (n * 4 + 1) / 4 from if_pos hi]; omega⟩
theorem isI_oi_no {n : Int} (h : ¬ (-100000 ≤ n ∧ n ≤ 100000)) : isI (oi n) = false := by
  rw [show oi n = 2 from if_neg h]; rfl
theorem isA_oa_yes {n : Int} (h1 : 0 ≤ n) (h2 : n ≤ 999) : isA (oa n) = true ∧ av (oa n) = n := by
  have e : oa n = (n + 1) * 4 := if_pos ⟨h1, h2⟩
  have hi : isA ((n + 1) * 4) = true := by simp [isA]; omega
  rw [e]
  exact ⟨hi, by rw [show av ((n + 1) * 4) = (n + 1) * 4 / 4 - 1 from if_pos hi]; omega⟩
theorem isA_oa_no {n : Int} (h : ¬ (0 ≤ n ∧ n ≤ 999)) : isA (oa n) = false := by
  rw [show oa n = 2 from if_neg h]; rfl
end Go.Proofs.YtfbopegdldoocaaGreat.words
namespace Go.Proofs.YtfbopegdldoocaaGreat.hp
open Go.RowKit rows heads words walks
set_option maxRecDepth 100000

/-- A heap. -/
structure Hp where
  half : Int
  old : Int
  row : List Int
  side : Int
  top : Int
  roots : List Int
  mourned : List Int
  seen : List Int
  seed : Int
abbrev hpv (H : Hp) (vr vo vm vs : Value) : Value := .agg #[.int .i64 H.half, .int .i64 H.old, vr, .int .i64 H.side, .int .i64 H.top, vo, vm, vs, .int .i64 H.seed]
abbrev hpb (H : Hp) (vr vo vm vs : Value) : Obj := .cells #[.int .i64 H.half, .int .i64 H.old, vr, .int .i64 H.side, .int .i64 H.top, vo, vm, vs, .int .i64 H.seed] 27
/-- A block of nine cells. -/
def Nine (w : World) (b : Nat) (t : TypeId) (c0 c1 c2 c3 c4 c5 c6 c7 c8 : Value) : Prop := w.heap[b]? = some (.cells #[c0, c1, c2, c3, c4, c5, c6, c7, c8] t (0, 0))
theorem nine_cells {w : World} {b : Nat} {t : TypeId} {c0 c1 c2 c3 c4 c5 c6 c7 c8 : Value} (h : Nine w b t c0 c1 c2 c3 c4 c5 c6 c7 c8) :
    (w.cell? ⟨b, 0, none⟩ = some c0 ∧ w.cell? ⟨b, 1, none⟩ = some c1 ∧ w.cell? ⟨b, 2, none⟩ = some c2 ∧ w.cell? ⟨b, 3, none⟩ = some c3 ∧ w.cell? ⟨b, 4, none⟩ = some c4) ∧ (w.cell? ⟨b, 5, none⟩ = some c5 ∧ w.cell? ⟨b, 6, none⟩ = some c6 ∧ w.cell? ⟨b, 7, none⟩ = some c7 ∧ w.cell? ⟨b, 8, none⟩ = some c8) ∧ ∀ k, w.frozen? ⟨b, k, none⟩ = false := by
  unfold Nine at h
  refine ⟨⟨?_, ?_, ?_, ?_, ?_⟩, ⟨?_, ?_, ?_, ?_⟩, fun k => ?_⟩
  all_goals simp [World.cell?, World.frozen?, h]
theorem nine_below {w w' : World} {b : Nat} {t : TypeId} {c0 c1 c2 c3 c4 c5 c6 c7 c8 : Value} (h : Nine w b t c0 c1 c2 c3 c4 c5 c6 c7 c8) (hb : Below w.heap.size w w') : Nine w' b t c0 c1 c2 c3 c4 c5 c6 c7 c8 := (hb.block b (lt_of_block h)).trans h
theorem nine_new (w : World) (H : Hp) (vr vo vm vs : Value) : Nine (w.alloc (hpb H vr vo vm vs)) w.heap.size 27 (.int .i64 H.half) (.int .i64 H.old) vr (.int .i64 H.side) (.int .i64 H.top) vo vm vs (.int .i64 H.seed) := heap_alloc_new _ _
/-- The heap may be read. -/
def HpAt (w : World) (vr vo vm vs : Value) (H : Hp) : Prop := IntsAt w vr H.row ∧ IntsAt w vo H.roots ∧ IntsAt w vm H.mourned ∧ IntsAt w vs H.seen
theorem hpAt_below {w w' : World} {vr vo vm vs : Value} {H : Hp} (h : HpAt w vr vo vm vs H) (hb : Below w.heap.size w w') : HpAt w' vr vo vm vs H := ⟨intsAt_below h.1 hb, intsAt_below h.2.1 hb, intsAt_below h.2.2.1 hb, intsAt_below h.2.2.2 hb⟩
theorem hpAt_slices {w : World} {vr vo vm vs : Value} {H : Hp} (h : HpAt w vr vo vm vs H) : ∃ a1 c1 a2 c2 a3 c3 a4 c4, vr = .slice a1 H.row.length c1 ∧ vo = .slice a2 H.roots.length c2 ∧ vm = .slice a3 H.mourned.length c3 ∧ vs = .slice a4 H.seen.length c4 := by
  obtain ⟨⟨a1, c1, e1, _⟩, ⟨a2, c2, e2, _⟩, ⟨a3, c3, e3, _⟩, ⟨a4, c4, e4, _⟩⟩ := h
  exact ⟨a1, c1, a2, c2, a3, c3, a4, c4, e1, e2, e3, e4⟩
/-- How many numbers it holds. -/
def hpSize (H : Hp) : Nat := H.row.length + H.roots.length + H.mourned.length + H.seen.length
/-- Places of the row. -/
def Plc (H : Hp) (ps : List Int) : Prop := ∀ p ∈ ps, ∃ j : Nat, p = j ∧ j < H.row.length
end Go.Proofs.YtfbopegdldoocaaGreat.hp
namespace Go.Proofs.YtfbopegdldoocaaGreat.rows
open Go.RowKit

theorem set_take {xs : List Int} {k : Nat} (h : k < xs.length) : (xs.take k ++ List.replicate (xs.length - k) 0).set k (xs.getD k 0) = xs.take (k + 1) ++ List.replicate (xs.length - (k + 1)) 0 := by
  apply List.ext_getElem?
  intro i
  simp only [List.getElem?_set, List.getElem?_append, List.length_take, List.getElem?_take, List.getElem?_replicate, List.length_append, List.length_replicate]
  rcases Nat.lt_trichotomy i k with hi | hi | hi
  · grind
  · grind
  · grind

set_option maxHeartbeats 1000000 in
theorem toInt64S_any {w : World} {v : Value} {xs : List Int} (h : IntsAt w v xs) (hl : xs.length ≤ 1048576) :
    Calls Tryz.prog 19 #[v] w fun e w' => e = .returned (.slice (some ⟨w.heap.size, 0, none⟩) xs.length xs.length) ∧ Full w' w.heap.size xs ∧ Below w.heap.size w w' := by
  obtain ⟨a, cap, rfl, hlc, hcm, _, hc⟩ := h
  obtain ⟨i0, hi, hz0, hz1, hz2⟩ := info_parts info
  have HC : Hid (0 < xs.length → ∃ b off, a = some ⟨b, off, none⟩ ∧ b < w.heap.size ∧ ∀ i, i < xs.length → w.cell? ⟨b, off + i, none⟩ = some (.int .i64 (xs.getD i 0))) := hc
  clear hc
  go_enter Tryz.func19, Tryz.ntmps19
  go_wp2_with (at_make; refine wpList_make_full _ rfl _ _ 22 rfl w.heap.size 2 i0 (.int .i64 0) 1 Tryz.underlying22 hi hz0 hz1 _ _ _ _ xs.length rfl rfl rfl rfl (by rw [hz2]; omega) (by unfold maxLen; omega) (Nat.le_refl _) ?_; intro w1 hown hgrow)
  have F : Full w1 w.heap.size (xs.take 0 ++ List.replicate (xs.length - 0) 0) := own_full hown (by simp [cellsOf, toList_madeCells_one, Value.cells])
  have B : Below w.heap.size w w1 := (Below.refl _ _).grown hgrow (Nat.le_refl _) (fun k e => by cases e)
  clear hown hgrow hi hz0 hz1 hz2
  go_loopw [4] (fun i wr => ∃ k : Nat, k ≤ xs.length ∧ i = .int .i64 k ∧ Full wr w.heap.size (xs.take k ++ List.replicate (xs.length - k) 0) ∧ Below w.heap.size w wr) (fun i _ => xs.length - (intOf i).toNat)
  case atStart => exact ⟨0, Nat.zero_le _, rfl, F, B⟩
  case round =>
    obtain ⟨k, hk, rfl, Fr, Br⟩ := hrel
    by_cases hlt : k < xs.length
    · obtain ⟨b, off, rfl, hb, hc⟩ := HC.out (by omega)
      have c0 : wr.cell? ⟨b, off + k, none⟩ = some (.int .i64 (xs.getD k 0)) := (Br.cell (p := ⟨b, off + k, none⟩) hb).trans (hc k hlt)
      have c1 : wr.cell? ⟨w.heap.size, k, none⟩ = some (.int .i64 ((xs.take k ++ List.replicate (xs.length - k) 0).getD k 0)) := full_cell Fr (by simp; omega)
      have c2 := full_frozen Fr k
      have F2 := full_set Fr k (xs.getD k 0)
      rw [set_take hlt] at F2
      have B2 : Below w.heap.size w (wr.setCell ⟨w.heap.size, k, none⟩ (.int .i64 (xs.getD k 0))) := Br.setCell (Nat.le_refl _) _
      have HF : Hid _ := F2
      have HB : Hid _ := B2
      clear F2 B2 Fr Br hc F B
      generalize xs.getD k 0 = x at *
      generalize (xs.take k ++ List.replicate (xs.length - k) 0).getD k 0 = y at *
      go_wp2
      exact ⟨⟨k + 1, by omega, by go_num, HF, HB⟩, by simp [intOf]; omega⟩
    · have e : k = xs.length := by omega
      subst e
      have F0 : Full wr w.heap.size xs := by simpa using Fr
      have HF : Hid (Full wr w.heap.size xs) := F0
      have HB : Hid (Below w.heap.size w wr) := Br
      clear Fr Br F B F0
      go_wp2
      go_ret
      exact ⟨rfl, HF, HB⟩

set_option maxHeartbeats 1000000 in
theorem eqInt64S_any {w : World} {v1 v2 : Value} {xs ys : List Int} (h1 : IntsAt w v1 xs) (h2 : IntsAt w v2 ys) (hl : xs.length ≤ 1048576) :
    Calls Tryz.prog 21 #[v1, v2] w fun e w' => e = .returned (.bool (decide (xs = ys))) ∧ ∃ n, w' = w.drewN n := by
  obtain ⟨a, cap, rfl, hlc, hcm, _, hc⟩ := h1
  obtain ⟨a', cap', rfl, hlc', hcm', _, hc'⟩ := h2
  by_cases hn : xs.length = ys.length
  · have HC : Hid (0 < xs.length → ∃ b off, a = some ⟨b, off, none⟩ ∧ b < w.heap.size ∧ ∀ i, i < xs.length → w.cell? ⟨b, off + i, none⟩ = some (.int .i64 (xs.getD i 0))) := hc
    have HC' : Hid (0 < ys.length → ∃ b off, a' = some ⟨b, off, none⟩ ∧ b < w.heap.size ∧ ∀ i, i < ys.length → w.cell? ⟨b, off + i, none⟩ = some (.int .i64 (ys.getD i 0))) := hc'
    clear hc hc'
    have hni : (xs.length : Int) = (ys.length : Int) := by omega
    go_enter Tryz.func21, Tryz.ntmps21
    go_wp2_with fail
    go_loopw [5] (fun i wr => ∃ k n : Nat, k ≤ xs.length ∧ i = .int .i64 k ∧ xs.take k = ys.take k ∧ wr = w.drewN n) (fun i _ => xs.length - (intOf i).toNat)
    case atStart => exact ⟨0, 0, Nat.zero_le _, rfl, by simp, rfl⟩
    case round =>
      obtain ⟨k, n, hk, rfl, ht, rfl⟩ := hrel
      by_cases hlt : k < xs.length
      · obtain ⟨b, off, rfl, hb, hc⟩ := HC.out (by omega)
        obtain ⟨b', off', rfl, hb', hc'⟩ := HC'.out (by omega)
        have c0 := hc k hlt
        have c1 := hc' k (by omega)
        have HT : Hid (xs.getD k 0 = ys.getD k 0 → xs.take (k + 1) = ys.take (k + 1)) := fun e => take_succ_eq ht hlt (by omega) e
        have HN : Hid (¬ xs.getD k 0 = ys.getD k 0 → decide (xs = ys) = false) := fun e => by simp only [decide_eq_false_iff_not]; intro e'; subst e'; exact e rfl
        clear hc hc' ht HC HC'
        have hlt' : k < ys.length := by omega
        generalize xs.getD k 0 = x at *
        generalize ys.getD k 0 = y at *
        by_cases hxy : x = y
        · go_wp2
          go_quiet (fail)
          go_wp2
          exact ⟨⟨k + 1, n + nq, by omega, by go_num, HT hxy, rfl⟩, by simp [intOf]; omega⟩
        · go_wp2
          go_quiet (fail)
          go_wp2
          go_ret
          exact ⟨by rw [HN hxy]; rfl, n + nq, by rw [World.drewN_drewN]⟩
      · have e : xs = ys := by
          have e1 : xs.take k = xs := List.take_of_length_le (by omega)
          have e2 : ys.take k = ys := List.take_of_length_le (by omega)
          rw [← e1, ht, e2]
        have HE : Hid (decide (xs = ys) = true) := by show _ = true; simpa using e
        clear ht e HC HC'
        go_wp2
        go_ret
        exact ⟨by rw [HE.out]; rfl, _, rfl⟩
  · have hni : ¬ (xs.length : Int) = (ys.length : Int) := by omega
    clear hc hc'
    go_enter Tryz.func21, Tryz.ntmps21
    go_wp2
    go_ret
    exact ⟨by rw [decide_eq_false (fun e => hn (by rw [e]))]; rfl, 0, rfl⟩

/-- The numbers from k on. -/
def marks (k : Int) (n : Nat) : List Int := (List.range n).map (fun i : Nat => k + (i : Int))
theorem marks_length (k : Int) (n : Nat) : (marks k n).length = n := by simp [marks]
theorem marks_getD (k : Int) {n i : Nat} (h : i < n) : (marks k n).getD i 0 = k + i := by simp [marks, List.getD_eq_getElem?_getD, h]
theorem marks_set {xs : List Int} {k : Nat} (k0 : Int) (h : k < xs.length) : (marks k0 k ++ xs.drop k).set k (k0 + (k : Int)) = marks k0 (k + 1) ++ xs.drop (k + 1) := by
  apply List.ext_getElem?
  intro i
  simp only [marks, List.getElem?_set, List.getElem?_append, List.length_map, List.length_range, List.getElem?_map, List.getElem?_drop, List.length_append, List.length_drop]
  grind

set_option maxHeartbeats 1000000 in
theorem markInt64S_any {w : World} {base : Nat} {v : Value} {xs : List Int} (h : Own w base v xs) (hl : xs.length ≤ 1048576) (k0 : Int) (hk0 : 0 ≤ k0) (hk1 : k0 ≤ 1048577) :
    Calls Tryz.prog 31 #[v, .int .i64 k0] w fun e w' => e = .returned (.int .i64 (k0 + xs.length)) ∧ Own w' base v (marks k0 xs.length) ∧ w.grownBy w' v.ownBlock := by
  have h' := h
  obtain ⟨_, ⟨rfl, hn⟩ | ⟨g, cap, cur, rfl, hg, hh, hle, hm, hs, ht⟩⟩ := h
  · have e : xs = [] := by simpa using hn
    subst e
    have HO : Hid (Own w base (.slice none 0 0) (marks k0 0)) := h'
    clear h' hn
    go_enter Tryz.func31, Tryz.ntmps31
    go_wp2
    refine wp_loop_rounds 1 ?_
    rw [rounds_succ]
    go_wp2
    go_ret
    exact ⟨by simp, HO, World.grownBy.refl _ _⟩
  · have HO : Hid (w.ownsRow base 2 1 (.slice (some ⟨g, 0, none⟩) xs.length cap) xs.length (cellsOf (marks k0 0 ++ xs.drop 0))) := h'
    clear h' hg hh hs ht cur
    go_enter Tryz.func31, Tryz.ntmps31
    go_wp2_with fail
    go_loopw [1, 5] (fun q i wr => ∃ k : Nat, k ≤ xs.length ∧ i = .int .i64 k ∧ q = .int .i64 (k0 + (k : Int)) ∧ wr.ownsRow base 2 1 (.slice (some ⟨g, 0, none⟩) xs.length cap) xs.length (cellsOf (marks k0 k ++ xs.drop k)) ∧ w.grownBy wr (some g)) (fun _ i _ => xs.length - (intOf i).toNat)
    case atStart => exact ⟨0, Nat.zero_le _, rfl, by simp, HO, World.grownBy.refl _ _⟩
    case round =>
      obtain ⟨k, hk, rfl, rfl, Or, Gr⟩ := hrel
      by_cases hlt : k < xs.length
      · have c0 := World.ownsRow.cellAt Or k (by omega)
        have c1 := World.ownsRow.frozenAt Or k
        have S := World.ownsRow.stored Or k (.int .i64 (k0 + (k : Int)))
        have e1 : (cellsOf (marks k0 k ++ xs.drop k)).set k (.int .i64 (k0 + (k : Int))) = cellsOf (marks k0 (k + 1) ++ xs.drop (k + 1)) := by
          rw [← marks_set k0 hlt]; simp [cellsOf, List.map_set]
        rw [e1] at S
        have HS : Hid _ := S.1
        have HG : Hid (w.grownBy (wr.setCell ⟨g, k, none⟩ (.int .i64 (k0 + (k : Int)))) (some g)) := ⟨S.2.os.trans Gr.os, S.2.tape.trans Gr.tape, S.2.output.trans Gr.output, Nat.le_trans Gr.size S.2.size, fun i hi hne => (S.2.block i (Nat.lt_of_lt_of_le hi Gr.size) hne).trans (Gr.block i hi hne)⟩
        have c2 : ∃ y, (cellsOf (marks k0 k ++ xs.drop k))[k]? = some y := ⟨_, List.getElem?_eq_getElem (by simp [marks]; omega)⟩
        obtain ⟨y, hy⟩ := c2
        rw [hy] at c0
        clear Or Gr S e1 HO hy
        go_wp2
        exact ⟨⟨k + 1, by omega, by go_num, by go_num, HS, HG⟩, by simp [intOf]; omega⟩
      · have e : k = xs.length := by omega
        subst e
        have HS : Hid (Own wr base (.slice (some ⟨g, 0, none⟩) xs.length cap) (marks k0 xs.length)) := by
          show World.ownsRow wr base _ 1 _ (marks k0 xs.length).length _
          rw [marks_length]
          simpa using Or
        have HG : Hid _ := Gr
        clear Or Gr HO
        go_wp2
        go_ret
        exact ⟨rfl, HS, HG⟩

set_option maxHeartbeats 1000000 in
theorem heldInt64S_any {w : World} {v : Value} {n : Nat} (k0 : Int) (h : IntsAt w v (marks k0 n)) (hl : n ≤ 1048576) (hk0 : 0 ≤ k0) (hk1 : k0 ≤ 1048577) :
    Calls Tryz.prog 32 #[v, .int .i64 k0] w fun e w' => e = .returned (.int .i64 (k0 + n)) ∧ w' = w := by
  obtain ⟨a, cap, rfl, hlc, hcm, _, hc⟩ := h
  rw [marks_length] at *
  have HC : Hid _ := hc
  clear hc
  go_enter Tryz.func32, Tryz.ntmps32
  go_wp2_with fail
  go_loop [1, 5] (fun q i => ∃ k : Nat, k ≤ n ∧ i = .int .i64 k ∧ q = .int .i64 (k0 + (k : Int))) (fun _ i => n - (intOf i).toNat)
  case atStart => exact ⟨0, Nat.zero_le _, rfl, by simp⟩
  case round =>
    obtain ⟨k, hk, rfl, rfl⟩ := hrel
    by_cases hlt : k < n
    · obtain ⟨b, off, rfl, hb, hc⟩ := HC.out (by omega)
      have c0 := hc k hlt
      rw [marks_getD k0 hlt] at c0
      clear hc HC
      go_wp2
      go_round
      case rel => exact ⟨k + 1, by omega, by go_num, by go_num⟩
      case measure => simp [intOf]; omega
    · have e : k = n := by omega
      subst e
      go_wp2
      go_ret
      exact ⟨rfl, rfl⟩
end Go.Proofs.YtfbopegdldoocaaGreat.rows
namespace Go.Proofs.YtfbopegdldoocaaGreat.hp
open Go.RowKit rows heads words walks
set_option maxRecDepth 100000

/-- The block of a row. -/
def blk (v : Value) : List Nat := v.ownBlock.toList
/-- Nothing but the blocks S has changed of what there was. -/
structure Ch (S : List Nat) (w w' : World) : Prop where
  os : w'.os = w.os
  tape : w'.tape = w.tape
  output : w'.output = w.output
  size : w.heap.size ≤ w'.heap.size
  block : ∀ k, k < w.heap.size → k ∉ S → w'.heap[k]? = w.heap[k]?
theorem Ch.refl (S : List Nat) (w : World) : Ch S w w := ⟨rfl, rfl, rfl, Nat.le_refl _, fun _ _ _ => rfl⟩
theorem Ch.trans {S : List Nat} {a b c : World} (h : Ch S a b) (k : Ch S b c) : Ch S a c :=
  ⟨k.os.trans h.os, k.tape.trans h.tape, k.output.trans h.output, Nat.le_trans h.size k.size, fun i hi hn => (k.block i (Nat.lt_of_lt_of_le hi h.size) hn).trans (h.block i hi hn)⟩
theorem Ch.mono {S T : List Nat} {a b : World} (h : Ch S a b) (hs : ∀ k ∈ S, k ∈ T) : Ch T a b := ⟨h.os, h.tape, h.output, h.size, fun k hk hn => h.block k hk (fun e => hn (hs k e))⟩
theorem ch_grown {a b : World} {v : Value} (h : a.grownBy b v.ownBlock) : Ch (blk v) a b := ⟨h.os, h.tape, h.output, h.size, fun k hk hn => h.block k hk (fun e => hn (by unfold blk; rw [← e]; simp))⟩
theorem ch_below {S : List Nat} {a b : World} (h : Below a.heap.size a b) : Ch S a b := ⟨h.os, h.tape, h.output, h.size, fun k hk _ => h.block k hk⟩
theorem below_ch {S : List Nat} {B : Nat} {a b : World} (h : Ch S a b) (hb : B ≤ a.heap.size) (hs : ∀ k ∈ S, B ≤ k) : Below B a b := ⟨h.os, h.tape, h.output, h.size, fun k hk => h.block k (by omega) (fun e => by have := hs k e; omega)⟩
theorem row_ch {S : List Nat} {w w' : World} {base size n : Nat} {t : TypeId} {v : Value} {xs : List Value} (h : w.ownsRow base t size v n xs) (hc : Ch S w w') (hd : ∀ k ∈ blk v, k ∉ S) : w'.ownsRow base t size v n xs := by
  obtain ⟨h0, ⟨h1, h2⟩ | ⟨g, cap, cur, h1, hg, hh, hle, hm, hs, ht⟩⟩ := h
  · exact ⟨h0, .inl ⟨h1, h2⟩⟩
  · refine ⟨h0, .inr ⟨g, cap, cur, h1, hg, (hc.block g (lt_of_block hh) (hd g ?_)).trans hh, hle, hm, hs, ht⟩⟩
    rw [h1]; simp [blk, Value.ownBlock]
theorem blk_lt {w : World} {base n size : Nat} {t : TypeId} {v : Value} {xs : List Value} (h : w.ownsRow base t size v n xs) : ∀ k ∈ blk v, base ≤ k ∧ k < w.heap.size := fun k hk => World.ownsRow.lt h k (by unfold blk at hk; exact Option.mem_toList.1 hk)
theorem one_ch (Y : World) (b k : Nat) (u : Value) : Ch [b] Y (Y.setCell ⟨b, k, none⟩ u) := ⟨rfl, rfl, rfl, by simp, fun j _ hn => Below.heap_setCell Y _ u j (fun e => hn (by simp [e]))⟩
theorem bel_of_drewN {w w' : World} (h : ∃ n, w' = w.drewN n) : Below w.heap.size w w' := by
  obtain ⟨n, rfl⟩ := h
  exact ⟨rfl, rfl, rfl, Nat.le_refl _, fun _ _ => rfl⟩
theorem ints_slice {w : World} {v : Value} {xs : List Int} (h : IntsAt w v xs) : ∃ a n c, v = .slice a n c := by
  obtain ⟨a, c, e, _⟩ := h
  exact ⟨a, _, c, e⟩

/-- The blocks of a heap's four rows. -/
def hblk (vr vo vm vs : Value) : List Nat := blk vr ++ blk vo ++ blk vm ++ blk vs
/-- A heap of the call's own, no two rows in one block. -/
def OwnH (w : World) (base : Nat) (vr vo vm vs : Value) (H : Hp) : Prop := (rows.Own w base vr H.row ∧ rows.Own w base vo H.roots ∧ rows.Own w base vm H.mourned ∧ rows.Own w base vs H.seen) ∧ (hblk vr vo vm vs).Nodup
theorem ownH_at {w : World} {base : Nat} {vr vo vm vs : Value} {H : Hp} (h : OwnH w base vr vo vm vs H) : HpAt w vr vo vm vs H := ⟨own_ints h.1.1, own_ints h.1.2.1, own_ints h.1.2.2.1, own_ints h.1.2.2.2⟩
theorem ownH_below {w w' : World} {base : Nat} {vr vo vm vs : Value} {H : Hp} (h : OwnH w base vr vo vm vs H) (hb : Below w.heap.size w w') : OwnH w' base vr vo vm vs H := ⟨⟨own_below h.1.1 hb, own_below h.1.2.1 hb, own_below h.1.2.2.1 hb, own_below h.1.2.2.2 hb⟩, h.2⟩
theorem ownH_base {w : World} {base base' : Nat} {vr vo vm vs : Value} {H : Hp} (h : OwnH w base vr vo vm vs H) (hb : base' ≤ base) : OwnH w base' vr vo vm vs H := ⟨⟨own_base h.1.1 hb, own_base h.1.2.1 hb, own_base h.1.2.2.1 hb, own_base h.1.2.2.2 hb⟩, h.2⟩
theorem in_hblk {vr vo vm vs : Value} : (∀ k ∈ blk vr, k ∈ hblk vr vo vm vs) ∧ (∀ k ∈ blk vo, k ∈ hblk vr vo vm vs) ∧ (∀ k ∈ blk vm, k ∈ hblk vr vo vm vs) ∧ ∀ k ∈ blk vs, k ∈ hblk vr vo vm vs := by
  unfold hblk
  simp only [List.mem_append]
  exact ⟨fun k h => .inl (.inl (.inl h)), fun k h => .inl (.inl (.inr h)), fun k h => .inl (.inr h), fun k h => .inr h⟩
theorem ownH_lt {w : World} {base : Nat} {vr vo vm vs : Value} {H : Hp} (h : OwnH w base vr vo vm vs H) : ∀ k ∈ hblk vr vo vm vs, base ≤ k ∧ k < w.heap.size := by
  intro k hk
  simp only [hblk, List.mem_append] at hk
  rcases hk with ((hk | hk) | hk) | hk
  · exact blk_lt h.1.1 k hk
  · exact blk_lt h.1.2.1 k hk
  · exact blk_lt h.1.2.2.1 k hk
  · exact blk_lt h.1.2.2.2 k hk
theorem ownH_ch {S : List Nat} {w w' : World} {base : Nat} {vr vo vm vs : Value} {H : Hp} (h : OwnH w base vr vo vm vs H) (hc : Ch S w w') (hd : ∀ k ∈ hblk vr vo vm vs, k ∉ S) : OwnH w' base vr vo vm vs H := by
  obtain ⟨i1, i2, i3, i4⟩ := @in_hblk vr vo vm vs
  exact ⟨⟨row_ch h.1.1 hc (fun k hk => hd k (i1 k hk)), row_ch h.1.2.1 hc (fun k hk => hd k (i2 k hk)), row_ch h.1.2.2.1 hc (fun k hk => hd k (i3 k hk)), row_ch h.1.2.2.2 hc (fun k hk => hd k (i4 k hk))⟩, h.2⟩
theorem hblk_apart {vr vo vm vs : Value} (h : (hblk vr vo vm vs).Nodup) : ((∀ k ∈ blk vr, k ∉ blk vo) ∧ (∀ k ∈ blk vr, k ∉ blk vm) ∧ ∀ k ∈ blk vr, k ∉ blk vs) ∧ ((∀ k ∈ blk vo, k ∉ blk vm) ∧ ∀ k ∈ blk vo, k ∉ blk vs) ∧ ∀ k ∈ blk vm, k ∉ blk vs := by
  unfold hblk at h
  rw [List.nodup_append, List.nodup_append, List.nodup_append] at h
  obtain ⟨⟨⟨_, _, h1⟩, _, h2⟩, _, h3⟩ := h
  refine ⟨⟨fun k hk e => h1 k hk k e rfl, fun k hk e => h2 k (List.mem_append.2 (.inl hk)) k e rfl, fun k hk e => h3 k (List.mem_append.2 (.inl (List.mem_append.2 (.inl hk)))) k e rfl⟩, ⟨fun k hk e => h2 k (List.mem_append.2 (.inr hk)) k e rfl, fun k hk e => h3 k (List.mem_append.2 (.inl (List.mem_append.2 (.inr hk)))) k e rfl⟩, fun k hk e => h3 k (List.mem_append.2 (.inr hk)) k e rfl⟩
theorem nine_mk (w : World) (t : TypeId) (c0 c1 c2 c3 c4 c5 c6 c7 c8 : Value) : Nine (w.alloc (.cells #[c0, c1, c2, c3, c4, c5, c6, c7, c8] t)) w.heap.size t c0 c1 c2 c3 c4 c5 c6 c7 c8 := heap_alloc_new w _
theorem nine_ch {S : List Nat} {w w' : World} {b : Nat} {t : TypeId} {c0 c1 c2 c3 c4 c5 c6 c7 c8 : Value} (h : Nine w b t c0 c1 c2 c3 c4 c5 c6 c7 c8) (hc : Ch S w w') (hb : b ∉ S) : Nine w' b t c0 c1 c2 c3 c4 c5 c6 c7 c8 := (hc.block b (lt_of_block h) hb).trans h
theorem cells_setCell9 {w : World} {b : Nat} {c : Array Value} {t : TypeId} (h : w.heap[b]? = some (.cells c t (0, 0))) (k : Nat) (u : Value) :
    (w.setCell ⟨b, k, none⟩ u).heap[b]? = some (.cells (c.setIfInBounds k u) t (0, 0)) := block_setCell h k u
theorem nine_set0 {w : World} {b : Nat} {t : TypeId} {c0 c1 c2 c3 c4 c5 c6 c7 c8 : Value} (h : Nine w b t c0 c1 c2 c3 c4 c5 c6 c7 c8) (u : Value) : Nine (w.setCell ⟨b, 0, none⟩ u) b t u c1 c2 c3 c4 c5 c6 c7 c8 := (cells_setCell9 h 0 u).trans (by simp)
theorem nine_set1 {w : World} {b : Nat} {t : TypeId} {c0 c1 c2 c3 c4 c5 c6 c7 c8 : Value} (h : Nine w b t c0 c1 c2 c3 c4 c5 c6 c7 c8) (u : Value) : Nine (w.setCell ⟨b, 1, none⟩ u) b t c0 u c2 c3 c4 c5 c6 c7 c8 := (cells_setCell9 h 1 u).trans (by simp)
theorem nine_set2 {w : World} {b : Nat} {t : TypeId} {c0 c1 c2 c3 c4 c5 c6 c7 c8 : Value} (h : Nine w b t c0 c1 c2 c3 c4 c5 c6 c7 c8) (u : Value) : Nine (w.setCell ⟨b, 2, none⟩ u) b t c0 c1 u c3 c4 c5 c6 c7 c8 := (cells_setCell9 h 2 u).trans (by simp)
theorem nine_set3 {w : World} {b : Nat} {t : TypeId} {c0 c1 c2 c3 c4 c5 c6 c7 c8 : Value} (h : Nine w b t c0 c1 c2 c3 c4 c5 c6 c7 c8) (u : Value) : Nine (w.setCell ⟨b, 3, none⟩ u) b t c0 c1 c2 u c4 c5 c6 c7 c8 := (cells_setCell9 h 3 u).trans (by simp)
theorem nine_set4 {w : World} {b : Nat} {t : TypeId} {c0 c1 c2 c3 c4 c5 c6 c7 c8 : Value} (h : Nine w b t c0 c1 c2 c3 c4 c5 c6 c7 c8) (u : Value) : Nine (w.setCell ⟨b, 4, none⟩ u) b t c0 c1 c2 c3 u c5 c6 c7 c8 := (cells_setCell9 h 4 u).trans (by simp)
theorem nine_set5 {w : World} {b : Nat} {t : TypeId} {c0 c1 c2 c3 c4 c5 c6 c7 c8 : Value} (h : Nine w b t c0 c1 c2 c3 c4 c5 c6 c7 c8) (u : Value) : Nine (w.setCell ⟨b, 5, none⟩ u) b t c0 c1 c2 c3 c4 u c6 c7 c8 := (cells_setCell9 h 5 u).trans (by simp)
theorem nine_set6 {w : World} {b : Nat} {t : TypeId} {c0 c1 c2 c3 c4 c5 c6 c7 c8 : Value} (h : Nine w b t c0 c1 c2 c3 c4 c5 c6 c7 c8) (u : Value) : Nine (w.setCell ⟨b, 6, none⟩ u) b t c0 c1 c2 c3 c4 c5 u c7 c8 := (cells_setCell9 h 6 u).trans (by simp)
theorem nine_set7 {w : World} {b : Nat} {t : TypeId} {c0 c1 c2 c3 c4 c5 c6 c7 c8 : Value} (h : Nine w b t c0 c1 c2 c3 c4 c5 c6 c7 c8) (u : Value) : Nine (w.setCell ⟨b, 7, none⟩ u) b t c0 c1 c2 c3 c4 c5 c6 u c8 := (cells_setCell9 h 7 u).trans (by simp)
theorem nine_set8 {w : World} {b : Nat} {t : TypeId} {c0 c1 c2 c3 c4 c5 c6 c7 c8 : Value} (h : Nine w b t c0 c1 c2 c3 c4 c5 c6 c7 c8) (u : Value) : Nine (w.setCell ⟨b, 8, none⟩ u) b t c0 c1 c2 c3 c4 c5 c6 c7 u := (cells_setCell9 h 8 u).trans (by simp)
theorem nine_sets {w : World} {b : Nat} {t : TypeId} {c0 c1 c2 c3 c4 c5 c6 c7 c8 : Value} (h : Nine w b t c0 c1 c2 c3 c4 c5 c6 c7 c8) (u0 u1 u2 u3 u4 u5 u6 u7 u8 : Value) : Nine (((((((((w.setCell ⟨b, 0, none⟩ u0).setCell ⟨b, 1, none⟩ u1).setCell ⟨b, 2, none⟩ u2).setCell ⟨b, 3, none⟩ u3).setCell ⟨b, 4, none⟩ u4).setCell ⟨b, 5, none⟩ u5).setCell ⟨b, 6, none⟩ u6).setCell ⟨b, 7, none⟩ u7).setCell ⟨b, 8, none⟩ u8) b t u0 u1 u2 u3 u4 u5 u6 u7 u8 := (nine_set8 (nine_set7 (nine_set6 (nine_set5 (nine_set4 (nine_set3 (nine_set2 (nine_set1 (nine_set0 h _) _) _) _) _) _) _) _) _)
theorem nine_belows {n : Nat} {w X : World} {b : Nat} (hB : Below n w X) (hb : n ≤ b) (u0 u1 u2 u3 u4 u5 u6 u7 u8 : Value) : Below n w (((((((((X.setCell ⟨b, 0, none⟩ u0).setCell ⟨b, 1, none⟩ u1).setCell ⟨b, 2, none⟩ u2).setCell ⟨b, 3, none⟩ u3).setCell ⟨b, 4, none⟩ u4).setCell ⟨b, 5, none⟩ u5).setCell ⟨b, 6, none⟩ u6).setCell ⟨b, 7, none⟩ u7).setCell ⟨b, 8, none⟩ u8) := (Below.setCell (Below.setCell (Below.setCell (Below.setCell (Below.setCell (Below.setCell (Below.setCell (Below.setCell (Below.setCell hB (p := ⟨b, 0, none⟩) hb _) (p := ⟨b, 1, none⟩) hb _) (p := ⟨b, 2, none⟩) hb _) (p := ⟨b, 3, none⟩) hb _) (p := ⟨b, 4, none⟩) hb _) (p := ⟨b, 5, none⟩) hb _) (p := ⟨b, 6, none⟩) hb _) (p := ⟨b, 7, none⟩) hb _) (p := ⟨b, 8, none⟩) hb _)
theorem nine_other {X : World} {b : Nat} (u0 u1 u2 u3 u4 u5 u6 u7 u8 : Value) : Ch [b] X (((((((((X.setCell ⟨b, 0, none⟩ u0).setCell ⟨b, 1, none⟩ u1).setCell ⟨b, 2, none⟩ u2).setCell ⟨b, 3, none⟩ u3).setCell ⟨b, 4, none⟩ u4).setCell ⟨b, 5, none⟩ u5).setCell ⟨b, 6, none⟩ u6).setCell ⟨b, 7, none⟩ u7).setCell ⟨b, 8, none⟩ u8) := (Ch.trans (Ch.trans (Ch.trans (Ch.trans (Ch.trans (Ch.trans (Ch.trans (Ch.trans (one_ch _ _ _ _) (one_ch _ _ _ _)) (one_ch _ _ _ _)) (one_ch _ _ _ _)) (one_ch _ _ _ _)) (one_ch _ _ _ _)) (one_ch _ _ _ _)) (one_ch _ _ _ _)) (one_ch _ _ _ _))
theorem res_heap {fn : Func} {tmps : Array Value} {X : World} {j b : Nat} {a1 a2 a3 a4 : Option Addr} {n1 d1 n2 d2 n3 d3 n4 d4 : Nat} {x0 x1 x3 x4 x8 : Int} (hf : fn.results = #[.cell j 27]) (h2 : tmps[j]? = some (.pointer (some ⟨b, 0, none⟩))) (hX : Nine X b 27 (.int .i64 x0) (.int .i64 x1) (.slice a1 n1 d1) (.int .i64 x3) (.int .i64 x4) (.slice a2 n2 d2) (.slice a3 n3 d3) (.slice a4 n4 d4) (.int .i64 x8)) :
    (results fn tmps).run Tryz.prog X = .ok (.agg #[.int .i64 x0, .int .i64 x1, .slice a1 n1 d1, .int .i64 x3, .int .i64 x4, .slice a2 n2 d2, .slice a3 n3 d3, .slice a4 n4 d4, .int .i64 x8]) X := by
  obtain ⟨⟨k0, k1, k2, k3, k4⟩, ⟨k5, k6, k7, k8⟩, _⟩ := nine_cells hX
  clear hX
  simp [results, hf, h2, go_sem, k0, k1, k2, k3, k4, k5, k6, k7, k8]
theorem res_heap2 {fn : Func} {tmps : Array Value} {X : World} {j i b : Nat} {bb : Bool} {a1 a2 a3 a4 : Option Addr} {n1 d1 n2 d2 n3 d3 n4 d4 : Nat} {x0 x1 x3 x4 x8 : Int} (hf : fn.results = #[.cell j 27, .tmp i]) (h2 : tmps[j]? = some (.pointer (some ⟨b, 0, none⟩))) (h3 : tmps[i]? = some (.bool bb)) (hX : Nine X b 27 (.int .i64 x0) (.int .i64 x1) (.slice a1 n1 d1) (.int .i64 x3) (.int .i64 x4) (.slice a2 n2 d2) (.slice a3 n3 d3) (.slice a4 n4 d4) (.int .i64 x8)) :
    (results fn tmps).run Tryz.prog X = .ok (.tuple #[.agg #[.int .i64 x0, .int .i64 x1, .slice a1 n1 d1, .int .i64 x3, .int .i64 x4, .slice a2 n2 d2, .slice a3 n3 d3, .slice a4 n4 d4, .int .i64 x8], .bool bb]) X := by
  obtain ⟨⟨k0, k1, k2, k3, k4⟩, ⟨k5, k6, k7, k8⟩, _⟩ := nine_cells hX
  clear hX
  simp [results, hf, h2, h3, go_sem, k0, k1, k2, k3, k4, k5, k6, k7, k8]
end Go.Proofs.YtfbopegdldoocaaGreat.hp
namespace Go.Proofs.YtfbopegdldoocaaGreat.rows
open Go.RowKit
set_option maxRecDepth 100000

/-- The blocks of v lie from lo on and below hi. -/
def In (lo hi : Nat) (v : Value) : Prop := ∀ k, v.ownBlock = some k → lo ≤ k ∧ k < hi

theorem own_in {w : World} {base : Nat} {v : Value} {xs : List Int} (h : Own w base v xs) : In base w.heap.size v := fun k e => World.ownsRow.lt h k e
theorem own_grown {w w' : World} {base lo hi g : Nat} {v : Value} {xs : List Int} (h : Own w base v xs) (hi' : In lo hi v) (hg : w.grownBy w' (some g)) (hne : g < lo ∨ hi ≤ g) : Own w' base v xs := by
  refine World.ownsRow.kept h hg ?_
  cases e : v.ownBlock with
  | none => exact .inl rfl
  | some k =>
    have := hi' k e
    refine .inr (fun e' => ?_)
    injection e' with e'
    omega
theorem own_drewN {w : World} {base n : Nat} {v : Value} {xs : List Int} (h : Own w base v xs) : Own (w.drewN n) base v xs := h
theorem below_drewN {B n : Nat} {w w' : World} (h : Below B w w') : Below B w (w'.drewN n) := ⟨h.os, h.tape, h.output, h.size, h.block⟩
theorem intsAt_drewN {w : World} {n : Nat} {v : Value} {xs : List Int} (h : IntsAt w v xs) : IntsAt (w.drewN n) v xs := h
theorem below_own {B lo hi : Nat} {w w1 w2 : World} {v : Value} (h : Below B w w1) (hg : w1.grownBy w2 v.ownBlock) (hi' : In lo hi v) (hB : B ≤ lo) (hs : B ≤ w1.heap.size) : Below B w w2 :=
  h.grown hg hs (fun k e => Nat.le_trans hB (hi' k e).1)
theorem own_grown' {w w' : World} {base lo hi lo' hi' : Nat} {v u : Value} {xs : List Int} (h : Own w base v xs) (i1 : In lo hi v) (hg : w.grownBy w' u.ownBlock) (i2 : In lo' hi' u) (hne : hi' ≤ lo ∨ hi ≤ lo') : Own w' base v xs := by
  refine World.ownsRow.kept h hg ?_
  cases e : v.ownBlock with
  | none => exact .inl rfl
  | some k =>
    have h1 := i1 k e
    refine .inr (fun e' => ?_)
    have h2 := i2 k e'.symm
    omega

theorem full_in {b : Nat} {n cap : Nat} : In b (b + 1) (.slice (some ⟨b, 0, none⟩) n cap) := fun k e => by
  injection e with e
  subst e
  exact ⟨Nat.le_refl _, Nat.lt_succ_self _⟩

end Go.Proofs.YtfbopegdldoocaaGreat.rows
namespace Go.Proofs.YtfbopegdldoocaaGreat.rows
open Go.RowKit

theorem eqInt64S_same {w : World} {v1 v2 : Value} {xs : List Int} (h1 : IntsAt w v1 xs) (h2 : IntsAt w v2 xs) (hl : xs.length ≤ 1048576) :
    Calls Tryz.prog 21 #[v1, v2] w fun e w' => e = .returned (.bool true) ∧ ∃ n, w' = w.drewN n :=
  (eqInt64S_any h1 h2 hl).mono fun _ _ ⟨he, hw⟩ => ⟨by rw [he]; simp, hw⟩

/-- A row of numbers that came in, as the laws open it. -/
theorem row_ints {k : IntKind} {w : World} {a : Option Addr} {len cap : Nat} {zs : List Int} (hk : k = .i64)
    (h : (a = none ∧ len = 0 ∧ cap = 0 ∧ zs = []) ∨ ∃ x, a = some x ∧ len ≤ cap ∧ cap ≤ maxLen ∧ zs.length = cap ∧ (∀ i, i < zs.length → w.cell? (x.add i) = some (.int k (zs.getD i 0))) ∧ ∀ n ∈ zs, (Lit.int k n).wf = true) :
    ∃ xs, xs.length = len ∧ IntsAt w (.slice a len cap) xs := by
  subst hk
  rcases h with ⟨rfl, rfl, rfl, rfl⟩ | ⟨x, rfl, hl, hm, hz, hc, _⟩
  · exact ⟨[], rfl, none, 0, rfl, Nat.le_refl _, by decide, fun _ => rfl, fun hp => absurd hp (by simp)⟩
  · have e : (zs.take len).length = len := by simp; omega
    refine ⟨zs.take len, e, some x, cap, by rw [e], by omega, hm, fun h => (by cases h), fun hp => ?_⟩
    obtain ⟨b, off, rfl, hc'⟩ := ints_at hc (by omega)
    refine ⟨b, off, rfl, World.block_lt_of_cell? w _ (hc' 0 (by omega)), fun i hi => ?_⟩
    rw [hc' i (by omega)]
    simp only [List.getD_eq_getElem?_getD]
    rw [List.getElem?_take, if_pos (by omega)]
end Go.Proofs.YtfbopegdldoocaaGreat.rows
