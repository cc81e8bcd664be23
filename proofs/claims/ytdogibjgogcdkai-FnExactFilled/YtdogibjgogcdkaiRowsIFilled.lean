/-
  What the program's Filled answers.
  Made from the template RowsIFilled.
-/
import Derived.Test.YtdogibjgogcdkaiFilledS
import Derived.Test.YtdogibjgogcdkaiRowsICut
import Derived.Test.YtdogibjgogcdkaiRowsICopy
namespace Go.Proofs.Ytdogibjgogcdkai.rows
open Go.RowKit

theorem i64_wrap (n : Int) : I64 (wrap64 n) := by unfold I64 wrap64; omega

theorem filled_less {w : World} {v : Value} {xs : List Int} {f t x : Int} (h : IntsAt w v xs) (hl : xs.length ≤ 1048576) (d1 : rowOk xs = true) (h1 : t < f) :
    Calls Try.prog 11 #[v, .int .i64 f, .int .i64 t, .int .i64 x] w fun e w' => ∃ v', e = .returned (.tuple #[v', .bool (fillOk xs f t)]) ∧ Own w' w.heap.size v' (filled xs f t x) ∧ Below w.heap.size w w' := by
  have hm : xs.length ≤ maxLen := by unfold maxLen; omega
  have eo : fillOk xs f t = false := by simp [fillOk, d1]; omega
  have ew : filled xs f t x = xs := by simp [filled, eo, d1]
  rw [eo, ew]
  clear eo ew
  go_enter Try.func11, Try.ntmps11
  go_wp2_with (go_at_call 28; refine (isRow_any h).mono ?_; rintro e w2 ⟨rfl, hw2⟩; rw [hw2]; clear hw2 w2)
  refine (copied_any h hl).mono ?_
  rintro e w1 ⟨rfl, F1, B1⟩
  have HO : Hid _ := full_own F1 (Nat.le_refl _) hm
  have HB : Hid _ := B1
  clear F1 B1
  go_wp2
  go_ret2
  exact ⟨_, rfl, HO, HB⟩

theorem filled_neg {w : World} {v : Value} {xs : List Int} {f t x : Int} (h : IntsAt w v xs) (hl : xs.length ≤ 1048576) (hf : I64 f) (d1 : rowOk xs = true) (h1 : ¬ t < f) (h2 : f < 0) :
    Calls Try.prog 11 #[v, .int .i64 f, .int .i64 t, .int .i64 x] w fun e w' => ∃ v', e = .returned (.tuple #[v', .bool (fillOk xs f t)]) ∧ Own w' w.heap.size v' (filled xs f t x) ∧ Below w.heap.size w w' := by
  have hm : xs.length ≤ maxLen := by unfold maxLen; omega
  have eo : fillOk xs f t = false := by simp [fillOk, d1]; omega
  have dc : ∀ n, cutOk xs.length f n = false := by intro n; simp [cutOk]; omega
  have ew : filled xs f t x = xs := by simp [filled, eo, d1]
  rw [eo, ew]
  clear eo ew
  go_enter Try.func11, Try.ntmps11
  go_wp2_with (go_at_call 28; refine (isRow_any h).mono ?_; rintro e w2 ⟨rfl, hw2⟩; rw [hw2]; clear hw2 w2)
  refine (copied_any h hl).mono ?_
  rintro e w1 ⟨rfl, F1, B1⟩
  have HO : Hid _ := full_own F1 (Nat.le_refl _) hm
  have HB : Hid _ := B1
  clear F1 B1
  go_wp2_with fail
  refine (cut_no (Nat.le_refl _) hm f _ hf ?_ (dc _)).mono ?_
  · exact i64_wrap _
  rintro e w2 ⟨rfl, hw2⟩
  rw [hw2]
  clear hw2 w2
  go_wp2
  refine wp_loop_rounds 1 ?_
  rw [rounds_succ]
  go_wp2
  go_ret2
  exact ⟨_, rfl, HO, HB⟩

theorem filled_out {w : World} {v : Value} {xs : List Int} {f t x : Int} (h : IntsAt w v xs) (hl : xs.length ≤ 1048576) (hf : I64 f) (ht : I64 t) (d1 : rowOk xs = true) (h1 : ¬ t < f) (h2 : 0 ≤ f) (d2 : cutOk xs.length f (t - f) = false) :
    Calls Try.prog 11 #[v, .int .i64 f, .int .i64 t, .int .i64 x] w fun e w' => ∃ v', e = .returned (.tuple #[v', .bool (fillOk xs f t)]) ∧ Own w' w.heap.size v' (filled xs f t x) ∧ Below w.heap.size w w' := by
  have hm : xs.length ≤ maxLen := by unfold maxLen; omega
  have eo : fillOk xs f t = false := by
    have := cutOk_false d2
    simp [fillOk, d1]; omega
  unfold I64 at hf ht
  have ew : filled xs f t x = xs := by simp [filled, eo, d1]
  rw [eo, ew]
  clear eo ew
  go_enter Try.func11, Try.ntmps11
  go_wp2_with (go_at_call 28; refine (isRow_any h).mono ?_; rintro e w2 ⟨rfl, hw2⟩; rw [hw2]; clear hw2 w2)
  refine (copied_any h hl).mono ?_
  rintro e w1 ⟨rfl, F1, B1⟩
  have HO : Hid _ := full_own F1 (Nat.le_refl _) hm
  have HB : Hid _ := B1
  clear F1 B1
  go_wp2_with fail
  refine (cut_no (Nat.le_refl _) hm f (t - f) hf ⟨by omega, by omega⟩ d2).mono ?_
  rintro e w2 ⟨rfl, hw2⟩
  rw [hw2]
  clear hw2 w2
  go_wp2
  refine wp_loop_rounds 1 ?_
  rw [rounds_succ]
  go_wp2
  go_ret2
  exact ⟨_, rfl, HO, HB⟩

set_option maxHeartbeats 2000000 in
theorem filled_in {w : World} {v : Value} {xs : List Int} {x : Int} (h : IntsAt w v xs) (hl : xs.length ≤ 1048576) (d1 : rowOk xs = true) (F N : Nat) (q1 : F + N ≤ xs.length) (t : Int) (et : t = (F : Int) + (N : Int)) :
    Calls Try.prog 11 #[v, .int .i64 F, .int .i64 t, .int .i64 x] w fun e w' => ∃ v', e = .returned (.tuple #[v', .bool (fillOk xs F t)]) ∧ Own w' w.heap.size v' (filled xs F t x) ∧ Below w.heap.size w w' := by
  have hm : xs.length ≤ maxLen := by unfold maxLen; omega
  have eo : fillOk xs F t = true := by simp [fillOk, d1]; omega
  have en : t - (F : Int) = (N : Int) := by omega
  have ew : filled xs F t x = fill xs F N x := by
    simp only [filled, eo]
    rw [en]
    rfl
  rw [eo, ew]
  clear eo ew
  have h1 : ¬ t < F := by omega
  have t1 : t ≤ 1048576 := by omega
  have HE : Hid _ := en
  clear en et
  go_enter Try.func11, Try.ntmps11
  go_wp2_with (go_at_call 28; refine (isRow_any h).mono ?_; rintro e w2 ⟨rfl, hw2⟩; rw [hw2]; clear hw2 w2)
  refine (copied_any h hl).mono ?_
  rintro e w1 ⟨rfl, F1, B1⟩
  have HF1 : Hid _ := F1
  have HB1 : Hid _ := B1
  clear F1 B1
  go_wp2_with fail
  rw [HE.out]
  clear HE
  refine (cut_yes (Nat.le_refl _) hm F N q1).mono ?_
  rintro e w2 ⟨rfl, hw2⟩
  rw [hw2]
  clear hw2 w2
  by_cases hN : N = 0
  · subst hN
    rw [piece_none]
    have HO : Hid (Own w1 w.heap.size (.slice (some ⟨w.heap.size, 0, none⟩) xs.length xs.length) (fill xs F 0 x)) := by
      show Own _ _ _ _
      rw [fill_zero]; exact full_own HF1.out (Nat.le_refl _) hm
    clear HF1
    go_wp2
    refine wp_loop_rounds 1 ?_
    rw [rounds_succ]
    go_wp2
    go_ret2
    exact ⟨_, rfl, HO, HB1⟩
  · rw [piece_at _ _ _ _ (Nat.pos_of_ne_zero hN), Nat.zero_add]
    go_wp2_with fail
    go_loopw [34] (fun i wr => ∃ k : Nat, k ≤ N ∧ i = .int .i64 (k : Int) ∧ Full wr w.heap.size (fill xs F k x) ∧ Below w.heap.size w wr) (fun i _ => N - (intOf i).toNat)
    case atStart => exact ⟨0, by omega, by simp, by rw [fill_zero]; exact HF1.out, HB1.out⟩
    case round =>
      obtain ⟨k, hk, rfl, Fr, Br⟩ := hrel
      clear HF1 HB1
      by_cases hlt : k < N
      · have c0 := full_cell Fr (i := F + k) (by rw [fill_length (by omega)]; omega)
        have c1 := full_frozen Fr (F + k)
        have F2 := full_set Fr (F + k) x
        rw [fill_set (by omega)] at F2
        have HF : Hid _ := F2
        have HB : Hid _ := Br.setCell (p := ⟨w.heap.size, F + k, none⟩) (Nat.le_refl _) (.int .i64 x)
        clear Fr Br F2
        generalize (fill xs F k x).getD (F + k) 0 = y at *
        go_wp2
        exact ⟨⟨k + 1, by omega, by go_num, HF, HB⟩, by simp [intOf]; omega⟩
      · have e : k = N := by omega
        subst e
        have O2 := full_own Fr (Nat.le_refl _) (by rw [fill_length (by omega)]; exact hm)
        rw [fill_length (by omega)] at O2
        have HO : Hid _ := O2
        have HB : Hid _ := Br
        clear Fr Br O2
        go_wp2
        go_ret2
        exact ⟨_, rfl, HO, HB⟩

theorem implFilled (w : World) (v : Value) (xs : List Int) (f t x : Int) (h : IntsAt w v xs) (hl : xs.length ≤ 1048576) (hf : I64 f) (ht : I64 t) :
    Calls Try.prog 11 #[v, .int .i64 f, .int .i64 t, .int .i64 x] w fun e w' => ∃ v', e = .returned (.tuple #[v', .bool (fillOk xs f t)]) ∧ Own w' w.heap.size v' (filled xs f t x) ∧ Below w.heap.size w w' := by
  cases d1 : rowOk xs
  · have eo : fillOk xs f t = false := by simp [fillOk, d1]
    have ew : filled xs f t x = [] := by simp [filled, eo, d1]
    rw [eo, ew]
    go_enter Try.func11, Try.ntmps11
    go_wp2_with (go_at_call 28; refine (isRow_any h).mono ?_; rintro e w' ⟨rfl, rfl⟩)
    go_ret2
    exact ⟨_, rfl, own_nil _ _, Below.refl _ _⟩
  · by_cases h1 : t < f
    · exact filled_less h hl d1 h1
    · by_cases h2 : f < 0
      · exact filled_neg h hl hf d1 h1 h2
      · cases d2 : cutOk xs.length f (t - f)
        · exact filled_out h hl hf ht d1 h1 (by omega) d2
        · obtain ⟨_, _, q⟩ := cutOk_true d2
          obtain ⟨F, rfl⟩ := Int.eq_ofNat_of_zero_le (show 0 ≤ f by omega)
          obtain ⟨N, hN⟩ := Int.eq_ofNat_of_zero_le (show 0 ≤ t - F by omega)
          exact filled_in h hl d1 F N (by omega) t (by omega)
end Go.Proofs.Ytdogibjgogcdkai.rows
