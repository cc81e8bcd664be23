/-
  A drawn word: some 64-bit number; the cursor goes on.
  Made from the template DrawOne.
-/
import Derived.Test.YtdogibjgogcdkabDrawMore
namespace Go.Proofs.Ytdogibjgogcdkab.draw
open Go.RowKit

theorem ofInt_yes (n : Int) (h1 : -100000 ≤ n) (h2 : n ≤ 100000) (w : World) :
    Calls Try.prog 57 #[.int .i64 n] w fun e w' => e = .returned (.int .i64 (4 * n + 1)) ∧ w' = w := by
  go_enter Try.func57, Try.ntmps57
  go_wp2
  go_ret
  exact ⟨rfl, rfl⟩
theorem ofAddr_yes (a : Int) (h1 : 0 ≤ a) (h2 : a ≤ 999) (w : World) :
    Calls Try.prog 58 #[.int .i64 a] w fun e w' => e = .returned (.int .i64 (4 * a + 4)) ∧ w' = w := by
  go_enter Try.func58, Try.ntmps58
  go_wp2
  go_ret
  exact ⟨rfl, rfl⟩

theorem one_any {W w : World} {bk : Nat} {a : Option Addr} {len cap : Nat} {zs : List Int} (hr : IsRow .u8 W a len cap zs) (hW : Below W.heap.size W w) (hbk : W.heap.size ≤ bk) (hc : Cur w bk a len cap) :
    Calls Try.prog 59 #[.pointer (some ⟨bk, 0, none⟩)] w fun e w' => ∃ x : Int, -9223372036854775808 ≤ x ∧ x ≤ 9223372036854775807 ∧ e = .returned (.int .i64 x) ∧ w.grownBy w' (some bk) ∧ Cur w' bk a len cap := by
  have step : ∀ {w' : World}, w.grownBy w' (some bk) → Below W.heap.size W w' := fun hg => hW.grown hg hW.size (fun k e => by cases e; exact hbk)
  go_enter Try.func59, Try.ntmps59
  go_wp2_with fail
  refine (below_any 5 hr hW hbk hc).mono ?_
  rintro e w1 ⟨x, hx0, _, hx1, rfl, hg1, hc1⟩
  have hx2 := hx1 (by decide)
  clear hx1
  obtain rfl | rfl | rfl | rfl | rfl : x = 0 ∨ x = 1 ∨ x = 2 ∨ x = 3 ∨ x = 4 := by omega
  all_goals clear hx0 hx2
  · go_wp2
    go_ret
    exact ⟨_, by decide, by decide, rfl, hg1, hc1⟩
  · go_wp2_with fail
    refine (below_any 100 hr (step hg1) hbk hc1).mono ?_
    rintro e w2 ⟨y, hy0, _, hy1, rfl, hg2, hc2⟩
    have hy2 := hy1 (by decide)
    clear hy1
    go_wp2_with fail
    refine (ofInt_yes _ (by omega) (by omega) _).mono ?_
    rintro e w3 ⟨rfl, rfl⟩
    go_wp2
    go_ret
    exact ⟨_, by omega, by omega, rfl, grownBy_trans hg1 hg2, hc2⟩
  · go_wp2_with fail
    refine (below_any 60 hr (step hg1) hbk hc1).mono ?_
    rintro e w2 ⟨y, hy0, _, hy1, rfl, hg2, hc2⟩
    have hy2 := hy1 (by decide)
    clear hy1
    go_wp2_with fail
    refine (ofAddr_yes _ (by omega) (by omega) _).mono ?_
    rintro e w3 ⟨rfl, rfl⟩
    go_wp2
    go_ret
    exact ⟨_, by omega, by omega, rfl, grownBy_trans hg1 hg2, hc2⟩
  · go_wp2_with fail
    refine (below_any 13 hr (step (grownBy_alloc hg1 _)) hbk (cur_alloc hc1 _)).mono ?_
    rintro e w2 ⟨y, hy0, _, hy1, rfl, hg2, hc2⟩
    have hy2 := hy1 (by decide)
    clear hy1
    obtain ⟨k, rfl⟩ := Int.eq_ofNat_of_zero_le hy0
    have hk : k < 13 := by omega
    have hcell : ∃ v : Int, -9223372036854775808 ≤ v ∧ v ≤ 9223372036854775807 ∧ w2.cell? ⟨w1.heap.size, k, none⟩ = some (.int .i64 v) := by
      have hlt := cur_lt hc1
      obtain rfl | rfl | rfl | rfl | rfl | rfl | rfl | rfl | rfl | rfl | rfl | rfl | rfl : k = 0 ∨ k = 1 ∨ k = 2 ∨ k = 3 ∨ k = 4 ∨ k = 5 ∨ k = 6 ∨ k = 7 ∨ k = 8 ∨ k = 9 ∨ k = 10 ∨ k = 11 ∨ k = 12 := by omega
      all_goals
        refine ⟨_, ?_, ?_, lit_cell hg2 hlt rfl⟩
        all_goals decide
    have hg3 := grownBy_trans (grownBy_alloc hg1 _) hg2
    obtain ⟨v, hv0, hv1, hv⟩ := hcell
    clear hg1 hg2 hc1 hy0
    go_wp2
    go_ret
    exact ⟨v, hv0, hv1, rfl, hg3, hc2⟩
  · go_wp2_with fail
    refine (below_any 500 hr (step hg1) hbk hc1).mono ?_
    rintro e w2 ⟨y, hy0, _, hy1, rfl, hg2, hc2⟩
    have hy2 := hy1 (by decide)
    clear hy1
    go_wp2
    go_ret
    exact ⟨_, by omega, by omega, rfl, grownBy_trans hg1 hg2, hc2⟩

end Go.Proofs.Ytdogibjgogcdkab.draw
