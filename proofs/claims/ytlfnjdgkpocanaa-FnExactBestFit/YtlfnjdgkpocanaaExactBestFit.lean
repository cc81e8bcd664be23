/-
  The walk of the law FnExactBestFit, given what the program's BestFit answers.
  Made from the template ExactBestFit.
-/
import Derived.Test.YtlfnjdgkpocanaaExactKit4
import Derived.Test.YtlfnjdgkpocanaaM4
namespace Go.Proofs.Ytlfnjdgkpocanaa.walks
open Go.RowKit rows heads words

set_option maxRecDepth 100000 in
set_option maxHeartbeats 4000000 in
theorem exactBestFit (CHUNK : ∀ (w : World) (v : Value) (xs : List Int) (f : Int) (t : Int) (s : Int), IntsAt w v xs → xs.length ≤ 1048576 → AllI xs → I64 f → I64 t → I64 s → Calls Try.prog 7 #[v, .int .i64 f, .int .i64 t, .int .i64 s] w fun e w' => e = .returned (.int .i64 (bestFit xs f t s)) ∧ Below w.heap.size w w')
    (w : World) (v : Value) (xs : List Int) (f : Int) (t : Int) (s : Int) (h : IntsAt w v xs) (ha : AllI xs) (hf : I64 f) (ht : I64 t) (hs : I64 s) :
    Calls Try.prog 4 #[v, .int .i64 f, .int .i64 t, .int .i64 s] w fun e w' => e = .returned (.bool true) ∧ Below w.heap.size w w' := by
  have h' := h
  obtain ⟨a, cap, rfl, hlc, hcm, hnil, hc⟩ := h
  clear hc hnil
  by_cases hl : xs.length ≤ 1048576
  · have hl' : ¬ (xs.length : Int) > 1048576 := by omega
    go_enter Try.func4, Try.ntmps4
    go_wp2_with fail
    refine (toInt64S_any h' hl).mono ?_
    rintro e w1 ⟨rfl, F1, B1⟩
    have s1 : w.heap.size < w1.heap.size := lt_of_block F1
    go_wp2_with fail
    refine (sBestFit_any (own_ints (full_own F1 (Nat.le_refl _) (by unfold maxLen; omega))) hl f t s hs).mono ?_
    rintro e w2 ⟨rfl, b2⟩
    have s2 := b2.size
    have B2 := B1.trans (b2.mono (by omega))
    clear b2 B1 F1
    go_wp2_with fail
    refine (toInt64S_any (intsAt_below h' B2) hl).mono ?_
    rintro e w3 ⟨rfl, F3, b3⟩
    have s3 : w2.heap.size < w3.heap.size := lt_of_block F3
    have B3 := B2.trans (b3.mono (by omega))
    clear b3 B2
    go_wp2_with fail
    refine (CHUNK w3 _ xs f t s (own_ints (full_own F3 (Nat.le_refl _) (by unfold maxLen; omega))) hl ha hf ht hs).mono ?_
    rintro e w4 ⟨rfl, b4⟩
    have s4 := b4.size
    have B4 := B3.trans (b4.mono (by omega))
    have OX := own_below (full_own F3 (Nat.le_refl _) (by unfold maxLen; omega)) b4
    clear b4 B3 F3
    generalize bestFit xs f t s = z at *
    go_wp2_with fail
    refine (toInt64S_any (intsAt_below h' B4) hl).mono ?_
    rintro e w6 ⟨rfl, F6, b6⟩
    have s6 : w4.heap.size < w6.heap.size := lt_of_block F6
    have B6 := B4.trans (b6.mono (by omega))
    have OX := own_below OX b6
    clear b6 B4
    go_wp2_with fail
    refine (eqInt64S_same (own_ints OX) (own_ints (full_own F6 (Nat.le_refl _) (by unfold maxLen; omega))) hl).mono ?_
    rintro e w7 ⟨rfl, q7, rfl⟩
    have B7 := rows.below_drewN (n := q7) B6
    clear B6 F6 OX
    go_wp2
    go_ret
    exact ⟨rfl, B7⟩
  · have hl' : (xs.length : Int) > 1048576 := by omega
    go_enter Try.func4, Try.ntmps4
    go_wp2
    go_ret
    exact ⟨rfl, Below.refl _ _⟩
end Go.Proofs.Ytlfnjdgkpocanaa.walks
