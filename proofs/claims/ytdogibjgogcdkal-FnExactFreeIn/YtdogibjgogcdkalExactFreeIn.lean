/-
  The walk of the law FnExactFreeIn, given what the program's FreeIn answers: for every list and every number it returns true and writes nothing that was there.
  Made from the template ExactFreeIn.
-/
import Derived.Test.YtdogibjgogcdkalExactKit4
import Derived.Test.YtdogibjgogcdkalFreeS2
namespace Go.Proofs.Ytdogibjgogcdkal.walks
open Go.RowKit rows heads words

set_option maxRecDepth 100000 in
set_option maxHeartbeats 8000000 in
theorem exactFreeIn (IMPL : ∀ (w : World) (v : Value) (xs : List Int) (f : Int) (t : Int), IntsAt w v xs → xs.length ≤ 1048576 → AllI xs → I64 f → I64 t → Calls Try.prog 26 #[v, .int .i64 f, .int .i64 t] w fun e w' => ∃ v', e = .returned v' ∧ Own w' w.heap.size v' (freeIn xs f t) ∧ Below w.heap.size w w')
    (w : World) (v : Value) (xs : List Int) (f : Int) (t : Int) (h : IntsAt w v xs) (ha : AllI xs) (hf : I64 f) (ht : I64 t) :
    Calls Try.prog 7 #[v, .int .i64 f, .int .i64 t] w fun e w' => e = .returned (.bool true) ∧ Below w.heap.size w w' := by
  have h' := h
  obtain ⟨a, cap, rfl, hlc, hcm, hnil, hc⟩ := h
  clear hc hnil
  by_cases hl : xs.length ≤ 1048576
  · have hl' : ¬ (xs.length : Int) > 1048576 := by omega
    have hy : (freeIn xs f t).length ≤ 1048576 := Nat.le_trans (freeIn_length xs f t).1 (by decide)
    go_enter Try.func7, Try.ntmps7
    go_wp2_with fail
    refine (toInt64S_any h' hl).mono ?_
    rintro e w1 ⟨rfl, F1, B1⟩
    have s1 : w.heap.size < w1.heap.size := lt_of_block F1
    go_wp2_with fail
    refine (sFreeIn_any (own_ints (full_own F1 (Nat.le_refl _) (by unfold maxLen; omega))) hl f t).mono ?_
    rintro e w2 ⟨vW, rfl, OW, b2⟩
    have s2 := b2.size
    have B2 := B1.trans (b2.mono (Nat.le_of_lt s1))
    have IW := own_in OW
    clear b2 F1 B1
    go_wp2_with fail
    refine (toInt64S_any (intsAt_below h' B2) hl).mono ?_
    rintro e w3 ⟨rfl, F3, b3⟩
    have s3 : w2.heap.size < w3.heap.size := lt_of_block F3
    have B3 := B2.trans (b3.mono (by omega))
    have OW := own_below OW b3
    clear b3 B2
    go_wp2_with fail
    refine (IMPL w3 _ xs f t (own_ints (full_own F3 (Nat.le_refl _) (by unfold maxLen; omega))) hl ha hf ht).mono ?_
    rintro e w4 ⟨vG, rfl, OG, b4⟩
    have s4 := b4.size
    have B4 := B3.trans (b4.mono (by omega))
    have OW := own_below OW b4
    have OX := own_below (full_own F3 (Nat.le_refl _) (by unfold maxLen; omega)) b4
    have IG := own_in OG
    clear b4 B3 F3
    go_wp2_with fail
    refine (eqInt64S_same (own_ints OG) (own_ints OW) hy).mono ?_
    rintro e w5 ⟨rfl, q5, rfl⟩
    go_wp2_with fail
    refine (toInt64S_any (w := w4.drewN q5) (intsAt_below h' (rows.below_drewN B4)) hl).mono ?_
    rintro e w6 ⟨rfl, F6, b6⟩
    have s6 : w4.heap.size < w6.heap.size := lt_of_block F6
    have B6 := (rows.below_drewN (n := q5) B4).trans (b6.mono (show w.heap.size ≤ w4.heap.size by omega))
    have OW := own_below (own_drewN (n := q5) OW) b6
    have OX := own_below (own_drewN (n := q5) OX) b6
    have OG := own_below (own_drewN (n := q5) OG) b6
    clear b6 B4
    go_wp2_with fail
    refine (eqInt64S_same (own_ints OX) (own_ints (full_own F6 (Nat.le_refl _) (by unfold maxLen; omega))) hl).mono ?_
    rintro e w7 ⟨rfl, q7, rfl⟩
    have OW := own_drewN (n := q7) OW
    have OX := own_drewN (n := q7) OX
    have OG := own_drewN (n := q7) OG
    have B7 := rows.below_drewN (n := q7) B6
    clear F6 B6
    generalize hw7 : w6.drewN q7 = w7 at *
    have s7 : w6.heap.size = w7.heap.size := by rw [← hw7]; rfl
    clear hw7
    go_wp2_with fail
    refine (markInt64S_any OX hl 1 (by omega) (by omega)).mono ?_
    rintro e w8 ⟨rfl, OX8, g8⟩
    have IX : In w2.heap.size (w2.heap.size + 1) (.slice (some ⟨w2.heap.size, 0, none⟩) xs.length xs.length) := full_in
    have s8 := g8.size
    have OW := own_grown' OW IW g8 IX (.inr (Nat.le_refl _))
    have OG := own_grown' OG IG g8 IX (.inl (by omega))
    have B8 := below_own B7 g8 IX (by omega) (by omega)
    clear B7 g8 OX OX8
    go_wp2_with fail
    refine (eqInt64S_same (own_ints OG) (own_ints OW) hy).mono ?_
    rintro e w9 ⟨rfl, q9, rfl⟩
    have OW := own_drewN (n := q9) OW
    have OG := own_drewN (n := q9) OG
    have B9 := rows.below_drewN (n := q9) B8
    clear B8
    generalize hw9 : w8.drewN q9 = w9 at *
    have s9 : w8.heap.size = w9.heap.size := by rw [← hw9]; rfl
    clear hw9
    go_wp2_with fail
    refine (markInt64S_any OG hy 1 (by omega) (by omega)).mono ?_
    rintro e w10 ⟨rfl, OG, g10⟩
    have s10 := g10.size
    have OW := own_grown' OW IW g10 IG (.inr (by omega))
    have B10 := below_own B9 g10 IG (by omega) (by omega)
    clear B9 g10
    go_wp2_with fail
    refine (heldInt64S_any 1 (own_ints OG) hy (by omega) (by omega)).mono ?_
    rintro e w10' ⟨rfl, hw⟩
    rw [hw]
    clear hw w10'
    go_wp2_with fail
    refine (toInt64S_any (intsAt_below h' B10) hl).mono ?_
    rintro e w11 ⟨rfl, F11, b11⟩
    have s11 : w10.heap.size < w11.heap.size := lt_of_block F11
    have B11 := B10.trans (b11.mono (by omega))
    have OW := own_below OW b11
    have OG := own_below OG b11
    clear b11 B10
    go_wp2_with fail
    refine (IMPL w11 _ xs f t (own_ints (full_own F11 (Nat.le_refl _) (by unfold maxLen; omega))) hl ha hf ht).mono ?_
    rintro e w12 ⟨vH, rfl, OH, b12⟩
    have s12 := b12.size
    have B12 := B11.trans (b12.mono (by omega))
    have OW := own_below OW b12
    have OG := own_below OG b12
    clear b12 B11 F11
    go_wp2_with fail
    refine (eqInt64S_same (own_ints OH) (own_ints OW) hy).mono ?_
    rintro e w13 ⟨rfl, q13, rfl⟩
    have OG := own_drewN (n := q13) OG
    have B13 := rows.below_drewN (n := q13) B12
    clear B12 OW OH
    go_wp2_with fail
    refine (heldInt64S_any (w := w12.drewN q13) 1 (own_ints OG) hy (by omega) (by omega)).mono ?_
    rintro e w14 ⟨rfl, hw⟩
    rw [hw]
    clear hw w14
    go_wp2
    go_ret
    exact ⟨rfl, B13⟩
  · have hl' : (xs.length : Int) > 1048576 := by omega
    go_enter Try.func7, Try.ntmps7
    go_wp2
    go_ret
    exact ⟨rfl, Below.refl _ _⟩
end Go.Proofs.Ytdogibjgogcdkal.walks
