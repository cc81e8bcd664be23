/-
  The draws of chapter 2, going on: any head at all; the numbers to be unpacked; how many slots.
  Made from the template DrawHeads2.
-/
import Derived.Test.YtdogibjgogcdkabDrawHeads
namespace Go.Proofs.Ytdogibjgogcdkab.draw
open Go.RowKit heads
set_option maxRecDepth 100000

/-- Fields of a head that is drawn, right or not. -/
def Small (s f c h : Int) : Prop := -1 ≤ s ∧ s ≤ 65536 ∧ -1 ≤ f ∧ f ≤ 65536 ∧ -1 ≤ c ∧ c ≤ 65536 ∧ -1 ≤ h ∧ h ≤ 65536

set_option maxHeartbeats 8000000 in
theorem l2DrawAny_right {W w : World} {bk : Nat} {a : Option Addr} {len cap : Nat} {zs : List Int} (hr : IsRow .u8 W a len cap zs) (hW : Below W.heap.size W w) (hbk : W.heap.size ≤ bk) (hc : Cur w bk a len cap) :
    Calls Try.prog 55 #[.pointer (some ⟨bk, 0, none⟩)] w fun e w' => ∃ (s f c h : Int) (p m : Bool), Small s f c h ∧ e = .returned (hv s f c h p m) ∧ w.grownBy w' (some bk) ∧ Cur w' bk a len cap := by
  have step : ∀ {w' : World}, w.grownBy w' (some bk) → Below W.heap.size W w' := fun hg => hW.grown hg hW.size (fun k e => by cases e; exact hbk)
  have n2 : w.heap.size ≠ bk := by have := cur_lt hc; omega
  go_enter Try.func55, Try.ntmps55
  go_wp2_with fail
  refine (l2Draw_right hr (step (grownBy_alloc (grownBy_refl _ _) _)) hbk (cur_alloc hc _)).mono ?_
  rintro e w1 ⟨s, f, c, h, p, m, hD, rfl, hg1, hc1⟩
  obtain ⟨b1, b2, b3, b4, b5', b6, b7, b8⟩ := hok_true hD.1
  clear hD
  have z1 : w.heap.size < w1.heap.size := by have := hg1.size; simp at this; omega
  have n3 : w1.heap.size ≠ bk := by have := cur_lt hc1; omega
  have T2 : HeadAt w1 w.heap.size 0 0 0 0 false false := headAt_grown (headAt_new w 0 0 0 0 false false) hg1 n2
  have hg1 := grownBy_trans (grownBy_alloc (grownBy_refl _ _) _) hg1
  go_wp2_with fail
  refine (once_any 5 hr (step (grownBy_alloc hg1 _)) hbk (cur_alloc hc1 _)).mono ?_
  rintro e w2 ⟨b5, rfl, hg2, hc2⟩
  have T3 : HeadAt w2 w1.heap.size s f c h p m := headAt_grown (headAt_new w1 s f c h p m) hg2 n3
  have T2 := headAt_grown (headAt_alloc T2 _) hg2 n2
  have hg2 := grownBy_trans (grownBy_alloc hg1 _) hg2
  have z2 : w1.heap.size < w2.heap.size := lt_of_block T3
  clear hg1 hc1
  cases b5
  · obtain ⟨k0, k1, k2, k3, k4, k5, k6⟩ := headAt_cells T3
    obtain ⟨l0, l1, l2, l3, l4, l5, l6⟩ := headAt_cells T2
    clear T3
    go_wp2
    obtain ⟨A, B, C⟩ := six_sets T2 hg2 hc2 (Nat.le_refl _) n2 s f c h p m
    exact bodyPost_ret (res_head rfl rfl A) rfl ⟨_, _, _, _, _, _, ⟨by omega, by omega, by omega, by omega, by omega, by omega, by omega, by omega⟩, rfl, B, C⟩
  · go_wp2_with fail
    refine (below_any 6 hr (step hg2) hbk hc2).mono ?_
    rintro e w3 ⟨x, hx0, _, hx1, rfl, hg3, hc3⟩
    have hx2 := hx1 (by decide)
    clear hx1
    have T3 := headAt_grown T3 hg3 n3
    have T2 := headAt_grown T2 hg3 n2
    have z3 : w2.heap.size ≤ w3.heap.size := hg3.size
    have hg3 := grownBy_trans hg2 hg3
    clear hg2 hc2
    obtain rfl | rfl | rfl | rfl | rfl | rfl : x = 0 ∨ x = 1 ∨ x = 2 ∨ x = 3 ∨ x = 4 ∨ x = 5 := by omega
    all_goals clear hx0 hx2
    · go_wp2_with fail
      refine (below_any 4 hr (step (grownBy_alloc hg3 _)) hbk (cur_alloc hc3 _)).mono ?_
      rintro e w4 ⟨y, hy0, _, hy1, rfl, hg4, hc4⟩
      have hy2 := hy1 (by decide)
      clear hy1
      obtain ⟨k, rfl⟩ := Int.eq_ofNat_of_zero_le hy0
      have hk : k < 4 := by omega
      have hcell : ∃ v : Int, -1 ≤ v ∧ v ≤ 65536 ∧ w4.cell? ⟨w3.heap.size, k, none⟩ = some (.int .i64 v) := by
        have hlt := cur_lt hc3
        obtain rfl | rfl | rfl | rfl : k = 0 ∨ k = 1 ∨ k = 2 ∨ k = 3 := by omega
        all_goals
          refine ⟨_, ?_, ?_, lit_cell hg4 hlt rfl⟩
          all_goals decide
      obtain ⟨v, hv0, hv1, hv⟩ := hcell
      have T3 := headAt_grown (headAt_alloc T3 _) hg4 n3
      have T2 := headAt_grown (headAt_alloc T2 _) hg4 n2
      have hg4 := grownBy_trans (grownBy_alloc hg3 _) hg4
      obtain ⟨k0, k1, k2, k3, k4, k5, k6⟩ := headAt_cells T3
      obtain ⟨l0, l1, l2, l3, l4, l5, l6⟩ := headAt_cells T2
      clear T3 hg3 hc3 hy0
      go_wp2
      obtain ⟨A, B, C⟩ := six_sets (headAt_other (q := ⟨w1.heap.size, 0, none⟩) T2 (Nat.ne_of_lt z1) (.int .i64 v)) (grownBy_setCell_new (p := ⟨w1.heap.size, 0, none⟩) hg4 (Nat.le_of_lt z1) _) (cur_setCell (p := ⟨w1.heap.size, 0, none⟩) hc4 n3.symm _) (Nat.le_refl _) n2 v f c h p m
      exact bodyPost_ret (res_head rfl rfl A) rfl ⟨_, _, _, _, _, _, ⟨by omega, by omega, by omega, by omega, by omega, by omega, by omega, by omega⟩, rfl, B, C⟩
    · go_wp2_with fail
      refine (from_any (-1) 10 (by decide) (by decide) (by decide) hr (step hg3) hbk hc3).mono ?_
      rintro e w4 ⟨v, hv0, hv1, rfl, hg4, hc4⟩
      have T3 := headAt_grown T3 hg4 n3
      have T2 := headAt_grown T2 hg4 n2
      have hg4 := grownBy_trans hg3 hg4
      obtain ⟨k0, k1, k2, k3, k4, k5, k6⟩ := headAt_cells T3
      obtain ⟨l0, l1, l2, l3, l4, l5, l6⟩ := headAt_cells T2
      clear T3 hg3 hc3
      go_wp2
      obtain ⟨A, B, C⟩ := six_sets (headAt_other (q := ⟨w1.heap.size, 1, none⟩) T2 (Nat.ne_of_lt z1) (.int .i64 v)) (grownBy_setCell_new (p := ⟨w1.heap.size, 1, none⟩) hg4 (Nat.le_of_lt z1) _) (cur_setCell (p := ⟨w1.heap.size, 1, none⟩) hc4 n3.symm _) (Nat.le_refl _) n2 s v c h p m
      exact bodyPost_ret (res_head rfl rfl A) rfl ⟨_, _, _, _, _, _, ⟨by omega, by omega, by omega, by omega, by omega, by omega, by omega, by omega⟩, rfl, B, C⟩
    · go_wp2_with fail
      refine (below_any 3 hr (step (grownBy_alloc hg3 _)) hbk (cur_alloc hc3 _)).mono ?_
      rintro e w4 ⟨y, hy0, _, hy1, rfl, hg4, hc4⟩
      have hy2 := hy1 (by decide)
      clear hy1
      obtain ⟨k, rfl⟩ := Int.eq_ofNat_of_zero_le hy0
      have hk : k < 3 := by omega
      have hcell : ∃ v : Int, -1 ≤ v ∧ v ≤ 65536 ∧ w4.cell? ⟨w3.heap.size, k, none⟩ = some (.int .i64 v) := by
        have hlt := cur_lt hc3
        obtain rfl | rfl | rfl : k = 0 ∨ k = 1 ∨ k = 2 := by omega
        all_goals
          refine ⟨_, ?_, ?_, lit_cell hg4 hlt rfl⟩
          all_goals decide
      obtain ⟨v, hv0, hv1, hv⟩ := hcell
      have T3 := headAt_grown (headAt_alloc T3 _) hg4 n3
      have T2 := headAt_grown (headAt_alloc T2 _) hg4 n2
      have hg4 := grownBy_trans (grownBy_alloc hg3 _) hg4
      obtain ⟨k0, k1, k2, k3, k4, k5, k6⟩ := headAt_cells T3
      obtain ⟨l0, l1, l2, l3, l4, l5, l6⟩ := headAt_cells T2
      clear T3 hg3 hc3 hy0
      go_wp2
      obtain ⟨A, B, C⟩ := six_sets (headAt_other (q := ⟨w1.heap.size, 2, none⟩) T2 (Nat.ne_of_lt z1) (.int .i64 v)) (grownBy_setCell_new (p := ⟨w1.heap.size, 2, none⟩) hg4 (Nat.le_of_lt z1) _) (cur_setCell (p := ⟨w1.heap.size, 2, none⟩) hc4 n3.symm _) (Nat.le_refl _) n2 s f v h p m
      exact bodyPost_ret (res_head rfl rfl A) rfl ⟨_, _, _, _, _, _, ⟨by omega, by omega, by omega, by omega, by omega, by omega, by omega, by omega⟩, rfl, B, C⟩
    · go_wp2_with fail
      refine (below_any 3 hr (step (grownBy_alloc hg3 _)) hbk (cur_alloc hc3 _)).mono ?_
      rintro e w4 ⟨y, hy0, _, hy1, rfl, hg4, hc4⟩
      have hy2 := hy1 (by decide)
      clear hy1
      obtain ⟨k, rfl⟩ := Int.eq_ofNat_of_zero_le hy0
      have hk : k < 3 := by omega
      have hcell : ∃ v : Int, -1 ≤ v ∧ v ≤ 65536 ∧ w4.cell? ⟨w3.heap.size, k, none⟩ = some (.int .i64 v) := by
        have hlt := cur_lt hc3
        obtain rfl | rfl | rfl : k = 0 ∨ k = 1 ∨ k = 2 := by omega
        all_goals
          refine ⟨_, ?_, ?_, lit_cell hg4 hlt rfl⟩
          all_goals decide
      obtain ⟨v, hv0, hv1, hv⟩ := hcell
      have T3 := headAt_grown (headAt_alloc T3 _) hg4 n3
      have T2 := headAt_grown (headAt_alloc T2 _) hg4 n2
      have hg4 := grownBy_trans (grownBy_alloc hg3 _) hg4
      obtain ⟨k0, k1, k2, k3, k4, k5, k6⟩ := headAt_cells T3
      obtain ⟨l0, l1, l2, l3, l4, l5, l6⟩ := headAt_cells T2
      clear T3 hg3 hc3 hy0
      go_wp2
      obtain ⟨A, B, C⟩ := six_sets (headAt_other (q := ⟨w1.heap.size, 3, none⟩) T2 (Nat.ne_of_lt z1) (.int .i64 v)) (grownBy_setCell_new (p := ⟨w1.heap.size, 3, none⟩) hg4 (Nat.le_of_lt z1) _) (cur_setCell (p := ⟨w1.heap.size, 3, none⟩) hc4 n3.symm _) (Nat.le_refl _) n2 s f c v p m
      exact bodyPost_ret (res_head rfl rfl A) rfl ⟨_, _, _, _, _, _, ⟨by omega, by omega, by omega, by omega, by omega, by omega, by omega, by omega⟩, rfl, B, C⟩
    · obtain ⟨k0, k1, k2, k3, k4, k5, k6⟩ := headAt_cells T3
      obtain ⟨l0, l1, l2, l3, l4, l5, l6⟩ := headAt_cells T2
      clear T3
      go_wp2
      obtain ⟨A, B, C⟩ := six_sets (headAt_other (q := ⟨w1.heap.size, 5, none⟩) T2 (Nat.ne_of_lt z1) (.bool true)) (grownBy_setCell_new (p := ⟨w1.heap.size, 5, none⟩) hg3 (Nat.le_of_lt z1) _) (cur_setCell (p := ⟨w1.heap.size, 5, none⟩) hc3 n3.symm _) (Nat.le_refl _) n2 s f c h p true
      exact bodyPost_ret (res_head rfl rfl A) rfl ⟨_, _, _, _, _, _, ⟨by omega, by omega, by omega, by omega, by omega, by omega, by omega, by omega⟩, rfl, B, C⟩
    · go_wp2_with fail
      refine (once_any 3 hr (step hg3) hbk hc3).mono ?_
      rintro e w4 ⟨b, rfl, hg4, hc4⟩
      have T3 := headAt_grown T3 hg4 n3
      have T2 := headAt_grown T2 hg4 n2
      have hg4 := grownBy_trans hg3 hg4
      obtain ⟨k0, k1, k2, k3, k4, k5, k6⟩ := headAt_cells T3
      obtain ⟨l0, l1, l2, l3, l4, l5, l6⟩ := headAt_cells T2
      clear hg3 hc3
      go_wp2
      obtain ⟨A0, B0, C0⟩ := six_sets T3 hg4 hc4 (Nat.le_of_lt z1) n3 0 6 0 0 b false
      have T2 := headAt_other (q := ⟨w1.heap.size, 5, none⟩) (headAt_other (q := ⟨w1.heap.size, 4, none⟩) (headAt_other (q := ⟨w1.heap.size, 3, none⟩) (headAt_other (q := ⟨w1.heap.size, 2, none⟩) (headAt_other (q := ⟨w1.heap.size, 1, none⟩) (headAt_other (q := ⟨w1.heap.size, 0, none⟩) T2 (Nat.ne_of_lt z1) (.int .i64 0)) (Nat.ne_of_lt z1) (.int .i64 6)) (Nat.ne_of_lt z1) (.int .i64 0)) (Nat.ne_of_lt z1) (.int .i64 0)) (Nat.ne_of_lt z1) (.bool b)) (Nat.ne_of_lt z1) (.bool false)
      obtain ⟨A, B, C⟩ := six_sets T2 B0 C0 (Nat.le_refl _) n2 0 6 0 0 b false
      exact bodyPost_ret (res_head rfl rfl A) rfl ⟨_, _, _, _, _, _, ⟨by omega, by omega, by omega, by omega, by omega, by omega, by omega, by omega⟩, rfl, B, C⟩

theorem l2DrawAny_any {W w : World} {bk : Nat} {a : Option Addr} {len cap : Nat} {zs : List Int} (hr : IsRow .u8 W a len cap zs) (hW : Below W.heap.size W w) (hbk : W.heap.size ≤ bk) (hc : Cur w bk a len cap) :
    Calls Try.prog 55 #[.pointer (some ⟨bk, 0, none⟩)] w fun e w' => ∃ (s f c h : Int) (p m : Bool), e = .returned (hv s f c h p m) ∧ w.grownBy w' (some bk) ∧ Cur w' bk a len cap :=
  (l2DrawAny_right hr hW hbk hc).mono fun _ _ ⟨s, f, c, h, p, m, _, he⟩ => ⟨s, f, c, h, p, m, he⟩

theorem pkd_bounds (s f c h : Int) (p m : Bool) : -1 ≤ pkd s f c h p m ∧ pkd s f c h p m ≤ 17179869183 := by
  unfold pkd
  split
  · rename_i hk
    obtain ⟨b1, b2, b3, b4, b5, b6, b7, b8⟩ := hok_true hk
    unfold pk
    split <;> split <;> omega
  · omega

end Go.Proofs.Ytdogibjgogcdkab.draw
