/-
  The draws of chapter 3, going on: places; the arguments of each of its functions.
  Made from the template DrawRows2.
-/
import Derived.Test.YtdogibjgogcdkabDrawRows
namespace Go.Proofs.Ytdogibjgogcdkab.draw
open Go.RowKit rows
set_option maxRecDepth 100000

theorem l3DrawAt_any {W w : World} {bk : Nat} {a : Option Addr} {len cap : Nat} {zs : List Int} (hr : IsRow .u8 W a len cap zs) (hW : Below W.heap.size W w) (hbk : W.heap.size ≤ bk) (hc : Cur w bk a len cap) :
    Calls Try.prog 60 #[.pointer (some ⟨bk, 0, none⟩)] w fun e w' => ∃ x : Int, -9223372036854775808 ≤ x ∧ x ≤ 9223372036854775807 ∧ e = .returned (.int .i64 x) ∧ w.grownBy w' (some bk) ∧ Cur w' bk a len cap := by
  have step : ∀ {w' : World}, w.grownBy w' (some bk) → Below W.heap.size W w' := fun hg => hW.grown hg hW.size (fun k e => by cases e; exact hbk)
  go_enter Try.func60, Try.ntmps60
  go_wp2_with fail
  refine (once_any 10 hr hW hbk hc).mono ?_
  rintro e w1 ⟨b, rfl, hg1, hc1⟩
  cases b
  · go_wp2_with fail
    refine (below_any 22 hr (step hg1) hbk hc1).mono ?_
    rintro e w2 ⟨y, hy0, _, hy1, rfl, hg2, hc2⟩
    have hy2 := hy1 (by decide)
    clear hy1
    go_wp2
    go_ret
    exact ⟨_, by omega, by omega, rfl, grownBy_trans hg1 hg2, hc2⟩
  · go_wp2_with fail
    refine (below_any 4 hr (step (grownBy_alloc hg1 _)) hbk (cur_alloc hc1 _)).mono ?_
    rintro e w2 ⟨y, hy0, _, hy1, rfl, hg2, hc2⟩
    have hy2 := hy1 (by decide)
    clear hy1
    obtain ⟨k, rfl⟩ := Int.eq_ofNat_of_zero_le hy0
    have hk : k < 4 := by omega
    have hcell : ∃ v : Int, -9223372036854775808 ≤ v ∧ v ≤ 9223372036854775807 ∧ w2.cell? ⟨w1.heap.size, k, none⟩ = some (.int .i64 v) := by
      have hlt := cur_lt hc1
      obtain rfl | rfl | rfl | rfl : k = 0 ∨ k = 1 ∨ k = 2 ∨ k = 3 := by omega
      all_goals
        refine ⟨_, ?_, ?_, lit_cell hg2 hlt rfl⟩
        all_goals decide
    have hg3 := grownBy_trans (grownBy_alloc hg1 _) hg2
    obtain ⟨v, hv0, hv1, hv⟩ := hcell
    clear hg1 hg2 hc1 hy0
    go_wp2
    go_ret
    exact ⟨v, hv0, hv1, rfl, hg3, hc2⟩

theorem own_cur {w w' : World} {base bk : Nat} {v : Value} {xs : List Int} (h : Own w base v xs) (hb : bk < base) (hg : w.grownBy w' (some bk)) : Own w' base v xs := by
  refine World.ownsRow.kept h hg ?_
  cases e : v.ownBlock with
  | none => exact .inl rfl
  | some k => have := World.ownsRow.lt h k e; exact .inr (fun e' => by injection e' with e'; omega)

end Go.Proofs.Ytdogibjgogcdkab.draw
