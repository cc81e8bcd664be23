/-
  The draws of chapter 3, at their end: the arguments of Filled and of Moved.
  Made from the template DrawRows3.
-/
import Derived.Test.YtdogibjgogcdkaaDrawRows2
namespace Go.Proofs.Ytdogibjgogcdkaa.draw
open Go.RowKit rows
set_option maxRecDepth 100000

theorem l1Min_any (a b : Int) (w : World) :
    Calls Try.prog 84 #[.int .i64 a, .int .i64 b] w fun e w' => e = .returned (.int .i64 (min a b)) ∧ w' = w := by
  by_cases h : a < b
  all_goals
    go_enter Try.func84, Try.ntmps84
    go_wp2
    go_ret
    exact ⟨by first | (rw [Int.min_eq_left (by omega)]; rfl) | (rw [Int.min_eq_right (by omega)]; rfl), rfl⟩
theorem l1Max_any (a b : Int) (w : World) :
    Calls Try.prog 85 #[.int .i64 a, .int .i64 b] w fun e w' => e = .returned (.int .i64 (max a b)) ∧ w' = w := by
  by_cases h : a > b
  all_goals
    go_enter Try.func85, Try.ntmps85
    go_wp2
    go_ret
    exact ⟨by first | (rw [Int.max_eq_left (by omega)]; rfl) | (rw [Int.max_eq_right (by omega)]; rfl), rfl⟩

set_option maxHeartbeats 1000000 in
theorem drawFilled_any {W w : World} {a : Option Addr} {len cap : Nat} {zs : List Int} (hr : IsRow .u8 W a len cap zs) (hW : Below W.heap.size W w) (hlen : len ≤ 4096) :
    Calls Try.prog 39 #[.slice a len cap] w fun e w' => ∃ (v : Value) (xs : List Int) (f t x : Int), xs.length ≤ 1001 ∧ I64 f ∧ I64 t ∧ e = .returned (.tuple #[v, .int .i64 f, .int .i64 t, .int .i64 x]) ∧ Own w' w.heap.size v xs ∧ Below w.heap.size w w' := by
  go_enter Try.func39, Try.ntmps39
  go_wp2_with fail
  refine (new_any hr hW hlen).mono ?_
  rintro e w1 ⟨rfl, hc1, hs1, hb1⟩
  have HS : Hid (w1.heap.size = w.heap.size + 1) := hs1
  clear hs1
  go_wp2_with fail
  refine (l3Draw_any hr (hW.trans (hb1.mono hW.size)) hW.size hc1).mono ?_
  rintro e w2 ⟨v, xs, hx, rfl, O2, hg2, hc2⟩
  have B2 : Below w.heap.size w w2 := hb1.grown hg2 hb1.size (fun k e => by cases e; exact Nat.le_refl _)
  clear hg2 hc1
  go_wp2_with fail
  refine (l3DrawAt_any hr (hW.trans (B2.mono hW.size)) hW.size hc2).mono ?_
  rintro e w3 ⟨i, i0, i1, rfl, hg3, hc3⟩
  have B3 : Below w.heap.size w w3 := B2.grown hg3 B2.size (fun k e => by cases e; exact Nat.le_refl _)
  have O3 := own_cur O2 (by have := HS.out; omega) hg3
  clear hg3 O2 B2 hc2
  go_wp2_with fail
  refine (l3DrawAt_any hr (hW.trans (B3.mono hW.size)) hW.size hc3).mono ?_
  rintro e w4 ⟨t, t0, t1, rfl, hg4, hc4⟩
  have B4 : Below w.heap.size w w4 := B3.grown hg4 B3.size (fun k e => by cases e; exact Nat.le_refl _)
  have O4 := own_cur O3 (by have := HS.out; omega) hg4
  clear hg4 O3 B3 hc3
  go_wp2_with fail
  refine (once_any 2 hr (hW.trans (B4.mono hW.size)) hW.size hc4).mono ?_
  rintro e w5 ⟨b, rfl, hg5, hc5⟩
  have B5 : Below w.heap.size w w5 := B4.grown hg5 B4.size (fun k e => by cases e; exact Nat.le_refl _)
  have O5 := own_cur O4 (by have := HS.out; omega) hg5
  clear hg5 O4 B4 hc4
  cases b
  · go_wp2_with fail
    refine (one_any hr (hW.trans (B5.mono hW.size)) hW.size hc5).mono ?_
    rintro e w6 ⟨x, x0, x1, rfl, hg6, hc6⟩
    have B6 : Below w.heap.size w w6 := B5.grown hg6 B5.size (fun k e => by cases e; exact Nat.le_refl _)
    have O6 := own_base (own_cur O5 (by have := HS.out; omega) hg6) (show w.heap.size ≤ w1.heap.size by have := HS.out; omega)
    clear hg6 O5 B5
    go_wp2
    exact bodyPost_ret (v := .tuple #[v, .int .i64 i, .int .i64 t, .int .i64 x]) (by simp [results, Try.results39, go_sem]) rfl ⟨v, xs, i, t, x, hx, ⟨i0, i1⟩, ⟨t0, t1⟩, rfl, O6, B6⟩
  · obtain ⟨av, capv, rfl, _, _, _, _⟩ := own_ints O5
    go_wp2_with (go_at_call 84; refine (l1Min_any _ _ _).mono ?_; rintro e w' ⟨rfl, hw'⟩; rw [hw']; clear hw' w')
    refine (l1Max_any _ _ _).mono ?_
    rintro e w' ⟨rfl, hw'⟩
    rw [hw']
    clear hw' w'
    obtain ⟨M, hM, M0, M1⟩ : ∃ M : Int, max 0 (min i 1000) = M ∧ 0 ≤ M ∧ M ≤ 1000 := ⟨_, rfl, by omega, by omega⟩
    rw [hM]
    clear hM
    go_wp2_with fail
    refine (below_any 6 hr (hW.trans (B5.mono hW.size)) hW.size hc5).mono ?_
    rintro e w6 ⟨y, hy0, _, hy1, rfl, hg6, hc6⟩
    have hy2 := hy1 (by decide)
    clear hy1
    have B6 : Below w.heap.size w w6 := B5.grown hg6 B5.size (fun k e => by cases e; exact Nat.le_refl _)
    have O6 := own_cur O5 (by have := HS.out; omega) hg6
    clear hg6 O5 B5 hc5
    go_wp2_with (go_at_call 84; refine (l1Min_any _ _ _).mono ?_; rintro e w' ⟨rfl, hw'⟩; rw [hw']; clear hw' w')
    refine (one_any hr (hW.trans (B6.mono hW.size)) hW.size hc6).mono ?_
    rintro e w7 ⟨x, x0, x1, rfl, hg7, hc7⟩
    have B7 : Below w.heap.size w w7 := B6.grown hg7 B6.size (fun k e => by cases e; exact Nat.le_refl _)
    have O7 := own_base (own_cur O6 (by have := HS.out; omega) hg7) (show w.heap.size ≤ w1.heap.size by have := HS.out; omega)
    clear hg7 O6 B6
    go_wp2
    exact bodyPost_ret (v := .tuple #[.slice av xs.length capv, .int .i64 i, .int .i64 (min (xs.length : Int) (M + y)), .int .i64 x]) (by simp [results, Try.results39, go_sem]) rfl ⟨_, xs, i, _, x, hx, ⟨i0, i1⟩, ⟨by omega, by omega⟩, rfl, O7, B7⟩

set_option maxHeartbeats 1000000 in
theorem drawMoved_any {W w : World} {a : Option Addr} {len cap : Nat} {zs : List Int} (hr : IsRow .u8 W a len cap zs) (hW : Below W.heap.size W w) (hlen : len ≤ 4096) :
    Calls Try.prog 45 #[.slice a len cap] w fun e w' => ∃ (v : Value) (xs : List Int) (f t n : Int), xs.length ≤ 1001 ∧ I64 f ∧ I64 t ∧ I64 n ∧ e = .returned (.tuple #[v, .int .i64 f, .int .i64 t, .int .i64 n]) ∧ Own w' w.heap.size v xs ∧ Below w.heap.size w w' := by
  go_enter Try.func45, Try.ntmps45
  go_wp2_with fail
  refine (new_any hr hW hlen).mono ?_
  rintro e w1 ⟨rfl, hc1, hs1, hb1⟩
  have HS : Hid (w1.heap.size = w.heap.size + 1) := hs1
  clear hs1
  go_wp2_with fail
  refine (l3Draw_any hr (hW.trans (hb1.mono hW.size)) hW.size hc1).mono ?_
  rintro e w2 ⟨v, xs, hx, rfl, O2, hg2, hc2⟩
  have B2 : Below w.heap.size w w2 := hb1.grown hg2 hb1.size (fun k e => by cases e; exact Nat.le_refl _)
  clear hg2 hc1
  go_wp2_with fail
  refine (below_any 12 hr (hW.trans (B2.mono hW.size)) hW.size hc2).mono ?_
  rintro e w3 ⟨f, f0, _, f1, rfl, hg3, hc3⟩
  have f2 := f1 (by decide)
  clear f1
  have B3 : Below w.heap.size w w3 := B2.grown hg3 B2.size (fun k e => by cases e; exact Nat.le_refl _)
  have O3 := own_cur O2 (by have := HS.out; omega) hg3
  clear hg3 O2 B2 hc2
  go_wp2_with fail
  refine (below_any 12 hr (hW.trans (B3.mono hW.size)) hW.size hc3).mono ?_
  rintro e w4 ⟨t, t0, _, t1, rfl, hg4, hc4⟩
  have t2 := t1 (by decide)
  clear t1
  have B4 : Below w.heap.size w w4 := B3.grown hg4 B3.size (fun k e => by cases e; exact Nat.le_refl _)
  have O4 := own_cur O3 (by have := HS.out; omega) hg4
  clear hg4 O3 B3 hc3
  go_wp2_with fail
  refine (once_any 12 hr (hW.trans (B4.mono hW.size)) hW.size hc4).mono ?_
  rintro e w5 ⟨b, rfl, hg5, hc5⟩
  have B5 : Below w.heap.size w w5 := B4.grown hg5 B4.size (fun k e => by cases e; exact Nat.le_refl _)
  have O5 := own_cur O4 (by have := HS.out; omega) hg5
  clear hg5 O4 B4 hc4
  cases b
  · go_wp2_with fail
    refine (from_any (-1) 9 (by decide) (by decide) (by decide) hr (hW.trans (B5.mono hW.size)) hW.size hc5).mono ?_
    rintro e w6 ⟨n, n0, n1, rfl, hg6, hc6⟩
    have B6 : Below w.heap.size w w6 := B5.grown hg6 B5.size (fun k e => by cases e; exact Nat.le_refl _)
    have O6 := own_base (own_cur O5 (by have := HS.out; omega) hg6) (show w.heap.size ≤ w1.heap.size by have := HS.out; omega)
    clear hg6 O5 B5
    go_wp2
    exact bodyPost_ret (v := .tuple #[v, .int .i64 f, .int .i64 t, .int .i64 n]) (by simp [results, Try.results45, go_sem]) rfl ⟨v, xs, f, t, n, hx, ⟨by omega, by omega⟩, ⟨by omega, by omega⟩, ⟨by omega, by omega⟩, rfl, O6, B6⟩
  · go_wp2_with fail
    refine (l3DrawAt_any hr (hW.trans (B5.mono hW.size)) hW.size hc5).mono ?_
    rintro e w6 ⟨t', t0', t1', rfl, hg6, hc6⟩
    have B6 : Below w.heap.size w w6 := B5.grown hg6 B5.size (fun k e => by cases e; exact Nat.le_refl _)
    have O6 := own_cur O5 (by have := HS.out; omega) hg6
    clear hg6 O5 B5 hc5
    go_wp2_with fail
    refine (from_any (-1) 9 (by decide) (by decide) (by decide) hr (hW.trans (B6.mono hW.size)) hW.size hc6).mono ?_
    rintro e w7 ⟨n, n0, n1, rfl, hg7, hc7⟩
    have B7 : Below w.heap.size w w7 := B6.grown hg7 B6.size (fun k e => by cases e; exact Nat.le_refl _)
    have O7 := own_base (own_cur O6 (by have := HS.out; omega) hg7) (show w.heap.size ≤ w1.heap.size by have := HS.out; omega)
    clear hg7 O6 B6
    go_wp2
    exact bodyPost_ret (v := .tuple #[v, .int .i64 f, .int .i64 t', .int .i64 n]) (by simp [results, Try.results45, go_sem]) rfl ⟨v, xs, f, t', n, hx, ⟨by omega, by omega⟩, ⟨t0', t1'⟩, ⟨by omega, by omega⟩, rfl, O7, B7⟩
end Go.Proofs.Ytdogibjgogcdkaa.draw
