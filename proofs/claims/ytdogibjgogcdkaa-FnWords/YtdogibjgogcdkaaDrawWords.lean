/-
  The draws of chapter 1: each returns some 64-bit number and writes into no memory that was there.
  Made from the template DrawWords.
-/
import Derived.Test.YtdogibjgogcdkaaDrawKit
import Derived.Test.YtdogibjgogcdkaaWords
namespace Go.Proofs.Ytdogibjgogcdkaa.draw
open Go.RowKit

theorem l1Draw_any {W w : World} {bk : Nat} {a : Option Addr} {len cap : Nat} {zs : List Int} (hr : IsRow .u8 W a len cap zs) (hW : Below W.heap.size W w) (hbk : W.heap.size ≤ bk) (hc : Cur w bk a len cap) :
    Calls Try.prog 80 #[.pointer (some ⟨bk, 0, none⟩)] w fun e w' => ∃ x : Int, -9223372036854775808 ≤ x ∧ x ≤ 9223372036854775807 ∧ e = .returned (.int .i64 x) ∧ w.grownBy w' (some bk) := by
  have step : ∀ {w' : World}, w.grownBy w' (some bk) → Below W.heap.size W w' := fun hg => hW.grown hg hW.size (fun k e => by cases e; exact hbk)
  go_enter Try.func80, Try.ntmps80
  go_wp2_with fail
  refine (below_any 5 hr hW hbk hc).mono ?_
  rintro e w1 ⟨x, hx0, _, hx1, rfl, hg1, hc1⟩
  have hx2 := hx1 (by decide)
  clear hx1
  obtain rfl | rfl | rfl | rfl | rfl : x = 0 ∨ x = 1 ∨ x = 2 ∨ x = 3 ∨ x = 4 := by omega
  all_goals clear hx0 hx2
  · go_wp2
    go_ret
    exact ⟨_, by decide, by decide, rfl, hg1⟩
  · go_wp2_with fail
    refine (below_any 100 hr (step hg1) hbk hc1).mono ?_
    rintro e w2 ⟨y, hy0, _, hy1, rfl, hg2, hc2⟩
    have hy2 := hy1 (by decide)
    clear hy1
    go_wp2_with fail
    refine (words.sOfInt_yes _ (by omega) (by omega) _).mono ?_
    rintro e w3 ⟨rfl, rfl⟩
    go_wp2
    go_ret
    exact ⟨_, by omega, by omega, rfl, grownBy_trans hg1 hg2⟩
  · go_wp2_with fail
    refine (below_any 60 hr (step hg1) hbk hc1).mono ?_
    rintro e w2 ⟨y, hy0, _, hy1, rfl, hg2, hc2⟩
    have hy2 := hy1 (by decide)
    clear hy1
    go_wp2_with fail
    refine (words.sOfAddr_yes _ (by omega) (by omega) _).mono ?_
    rintro e w3 ⟨rfl, rfl⟩
    go_wp2
    go_ret
    exact ⟨_, by omega, by omega, rfl, grownBy_trans hg1 hg2⟩
  · go_wp2_with fail
    refine (below_any 13 hr (step (grownBy_alloc hg1 _)) hbk (cur_alloc hc1 _)).mono ?_
    rintro e w2 ⟨y, hy0, _, hy1, rfl, hg2, hc2⟩
    have hy2 := hy1 (by decide)
    clear hy1
    obtain ⟨k, rfl⟩ := Int.eq_ofNat_of_zero_le hy0
    have hk : k < 13 := by omega
    have hcell : ∃ v : Int, -9223372036854775808 ≤ v ∧ v ≤ 9223372036854775807 ∧ w2.cell? ⟨w1.heap.size, k, none⟩ = some (.int .i64 v) := by
      have hlt := cur_lt hc1
      obtain rfl | rfl | rfl | rfl | rfl | rfl | rfl | rfl | rfl | rfl | rfl | rfl | rfl : k = 0 ∨ k = 1 ∨ k = 2 ∨ k = 3 ∨ k = 4 ∨ k = 5 ∨ k = 6 ∨ k = 7 ∨ k = 8 ∨ k = 9 ∨ k = 10 ∨ k = 11 ∨ k = 12 := by omega
      all_goals
        refine ⟨_, ?_, ?_, lit_cell hg2 hlt rfl⟩
        all_goals decide
    have hg3 := grownBy_trans (grownBy_alloc hg1 _) hg2
    obtain ⟨v, hv0, hv1, hv⟩ := hcell
    clear hg1 hg2 hc1 hc2 hy0
    go_wp2
    go_ret
    exact ⟨v, hv0, hv1, rfl, hg3⟩
  · go_wp2_with fail
    refine (below_any 500 hr (step hg1) hbk hc1).mono ?_
    rintro e w2 ⟨y, hy0, _, hy1, rfl, hg2, hc2⟩
    have hy2 := hy1 (by decide)
    clear hy1
    go_wp2
    go_ret
    exact ⟨_, by omega, by omega, rfl, grownBy_trans hg1 hg2⟩

theorem drawWordOk_any {W w : World} {a : Option Addr} {len cap : Nat} {zs : List Int} (hr : IsRow .u8 W a len cap zs) (hW : Below W.heap.size W w) (hlen : len ≤ 4096) :
    Calls Try.prog 54 #[.slice a len cap] w fun e w' => ∃ x : Int, -9223372036854775808 ≤ x ∧ x ≤ 9223372036854775807 ∧ e = .returned (.int .i64 x) ∧ Below w.heap.size w w' := by
  go_enter Try.func54, Try.ntmps54
  go_wp2_with fail
  refine (new_any hr hW hlen).mono ?_
  rintro e w1 ⟨rfl, hc1, hs1, hb1⟩
  have HS : Hid (w1.heap.size = w.heap.size + 1) := hs1
  clear hs1
  go_wp2_with fail
  refine (l1Draw_any hr (hW.trans (hb1.mono hW.size)) hW.size hc1).mono ?_
  rintro e w2 ⟨x, hx0, hx1, rfl, hg⟩
  go_wp2
  go_ret
  exact ⟨x, hx0, hx1, rfl, hb1.grown hg hb1.size (fun k e => by cases e; exact Nat.le_refl _)⟩

theorem drawIntOf_any {W w : World} {a : Option Addr} {len cap : Nat} {zs : List Int} (hr : IsRow .u8 W a len cap zs) (hW : Below W.heap.size W w) (hlen : len ≤ 4096) :
    Calls Try.prog 9 #[.slice a len cap] w fun e w' => ∃ x : Int, -9223372036854775808 ≤ x ∧ x ≤ 9223372036854775807 ∧ e = .returned (.int .i64 x) ∧ Below w.heap.size w w' := by
  go_enter Try.func9, Try.ntmps9
  go_wp2_with fail
  refine (drawWordOk_any hr hW hlen).mono ?_
  rintro e w2 ⟨x, hx0, hx1, rfl, hg⟩
  go_wp2
  go_ret
  exact ⟨x, hx0, hx1, rfl, hg⟩

theorem drawOfInt_any {W w : World} {a : Option Addr} {len cap : Nat} {zs : List Int} (hr : IsRow .u8 W a len cap zs) (hW : Below W.heap.size W w) (hlen : len ≤ 4096) :
    Calls Try.prog 12 #[.slice a len cap] w fun e w' => ∃ x : Int, -9223372036854775808 ≤ x ∧ x ≤ 9223372036854775807 ∧ e = .returned (.int .i64 x) ∧ Below w.heap.size w w' := by
  go_enter Try.func12, Try.ntmps12
  go_wp2_with fail
  refine (new_any hr hW hlen).mono ?_
  rintro e w1 ⟨rfl, hc1, hs1, hb1⟩
  have HS : Hid (w1.heap.size = w.heap.size + 1) := hs1
  clear hs1
  go_wp2_with fail
  refine (below_any 9 hr ((hW.trans (hb1.mono hW.size)).alloc (Nat.le_trans hW.size hb1.size) _) hW.size (cur_alloc hc1 _)).mono ?_
  rintro e w2 ⟨y, hy0, _, hy1, rfl, hg2, hc2⟩
  have hy2 := hy1 (by decide)
  clear hy1
  obtain ⟨k, rfl⟩ := Int.eq_ofNat_of_zero_le hy0
  have hk : k < 9 := by omega
  have hcell : ∃ v : Int, -9223372036854775808 ≤ v ∧ v ≤ 9223372036854775807 ∧ w2.cell? ⟨w1.heap.size, k, none⟩ = some (.int .i64 v) := by
    have hlt := cur_lt hc1
    obtain rfl | rfl | rfl | rfl | rfl | rfl | rfl | rfl | rfl : k = 0 ∨ k = 1 ∨ k = 2 ∨ k = 3 ∨ k = 4 ∨ k = 5 ∨ k = 6 ∨ k = 7 ∨ k = 8 := by omega
    all_goals
      refine ⟨_, ?_, ?_, lit_cell hg2 hlt rfl⟩
      all_goals decide
  have hg3 : Below w.heap.size w w2 := (hb1.alloc hb1.size _).grown hg2 (Nat.le_trans hb1.size (by simp)) (fun k e => by cases e; exact Nat.le_refl _)
  obtain ⟨v, hv0, hv1, hv⟩ := hcell
  clear hg2 hc1 hc2 hy0
  go_wp2
  go_ret
  exact ⟨v, hv0, hv1, rfl, hg3⟩

theorem drawOfAddr_any {W w : World} {a : Option Addr} {len cap : Nat} {zs : List Int} (hr : IsRow .u8 W a len cap zs) (hW : Below W.heap.size W w) (hlen : len ≤ 4096) :
    Calls Try.prog 13 #[.slice a len cap] w fun e w' => ∃ x : Int, -9223372036854775808 ≤ x ∧ x ≤ 9223372036854775807 ∧ e = .returned (.int .i64 x) ∧ Below w.heap.size w w' := by
  go_enter Try.func13, Try.ntmps13
  go_wp2_with fail
  refine (new_any hr hW hlen).mono ?_
  rintro e w1 ⟨rfl, hc1, hs1, hb1⟩
  have HS : Hid (w1.heap.size = w.heap.size + 1) := hs1
  clear hs1
  go_wp2_with fail
  refine (below_any 8 hr ((hW.trans (hb1.mono hW.size)).alloc (Nat.le_trans hW.size hb1.size) _) hW.size (cur_alloc hc1 _)).mono ?_
  rintro e w2 ⟨y, hy0, _, hy1, rfl, hg2, hc2⟩
  have hy2 := hy1 (by decide)
  clear hy1
  obtain ⟨k, rfl⟩ := Int.eq_ofNat_of_zero_le hy0
  have hk : k < 8 := by omega
  have hcell : ∃ v : Int, -9223372036854775808 ≤ v ∧ v ≤ 9223372036854775807 ∧ w2.cell? ⟨w1.heap.size, k, none⟩ = some (.int .i64 v) := by
    have hlt := cur_lt hc1
    obtain rfl | rfl | rfl | rfl | rfl | rfl | rfl | rfl : k = 0 ∨ k = 1 ∨ k = 2 ∨ k = 3 ∨ k = 4 ∨ k = 5 ∨ k = 6 ∨ k = 7 := by omega
    all_goals
      refine ⟨_, ?_, ?_, lit_cell hg2 hlt rfl⟩
      all_goals decide
  have hg3 : Below w.heap.size w w2 := (hb1.alloc hb1.size _).grown hg2 (Nat.le_trans hb1.size (by simp)) (fun k e => by cases e; exact Nat.le_refl _)
  obtain ⟨v, hv0, hv1, hv⟩ := hcell
  clear hg2 hc1 hc2 hy0
  go_wp2
  go_ret
  exact ⟨v, hv0, hv1, rfl, hg3⟩
end Go.Proofs.Ytdogibjgogcdkaa.draw
