/-
  The draws of chapter 2: each returns some head (or number) and writes into no memory that was there, but for the cursor's own block.
  Made from the template DrawHeads.
-/
import Derived.Test.YtlfnjdgkpocanaaM1
import Derived.Test.YtlfnjdgkpocanaaPack
import Derived.Test.YtlfnjdgkpocanaaHeadMem
namespace Go.Proofs.Ytlfnjdgkpocanaa.draw
open Go.RowKit heads
set_option maxRecDepth 100000

theorem headAt_grown {w w' : World} {bk b : Nat} {s f c h : Int} {p m : Bool} (hh : HeadAt w b s f c h p m) (hg : w.grownBy w' (some bk)) (hne : b ≠ bk) : HeadAt w' b s f c h p m := grownBy_block hg hh hne

/-- A whole head stored into a block of its own. -/
theorem six_sets {w X : World} {bk b : Nat} {a : Option Addr} {len cap : Nat} {s' f' c' h' : Int} {p' m' : Bool} (T : HeadAt X b s' f' c' h' p' m') (hg : w.grownBy X (some bk)) (hc : Cur X bk a len cap) (hb : w.heap.size ≤ b) (hne : b ≠ bk) (s f c h : Int) (p m : Bool) :
    HeadAt ((((((X.setCell ⟨b, 0, none⟩ (.int .i64 s)).setCell ⟨b, 1, none⟩ (.int .i64 f)).setCell ⟨b, 2, none⟩ (.int .i64 c)).setCell ⟨b, 3, none⟩ (.int .i64 h)).setCell ⟨b, 4, none⟩ (.bool p)).setCell ⟨b, 5, none⟩ (.bool m)) b s f c h p m ∧
    w.grownBy ((((((X.setCell ⟨b, 0, none⟩ (.int .i64 s)).setCell ⟨b, 1, none⟩ (.int .i64 f)).setCell ⟨b, 2, none⟩ (.int .i64 c)).setCell ⟨b, 3, none⟩ (.int .i64 h)).setCell ⟨b, 4, none⟩ (.bool p)).setCell ⟨b, 5, none⟩ (.bool m)) (some bk) ∧
    Cur ((((((X.setCell ⟨b, 0, none⟩ (.int .i64 s)).setCell ⟨b, 1, none⟩ (.int .i64 f)).setCell ⟨b, 2, none⟩ (.int .i64 c)).setCell ⟨b, 3, none⟩ (.int .i64 h)).setCell ⟨b, 4, none⟩ (.bool p)).setCell ⟨b, 5, none⟩ (.bool m)) bk a len cap :=
  ⟨headAt_set5 (headAt_set4 (headAt_set3 (headAt_set2 (headAt_set1 (headAt_set0 T _) _) _) _) _) _,
   grownBy_setCell_new (grownBy_setCell_new (grownBy_setCell_new (grownBy_setCell_new (grownBy_setCell_new (grownBy_setCell_new hg hb _) hb _) hb _) hb _) hb _) hb _,
   cur_setCell (cur_setCell (cur_setCell (cur_setCell (cur_setCell (cur_setCell hc hne.symm _) hne.symm _) hne.symm _) hne.symm _) hne.symm _) hne.symm _⟩

/-- A head as it is drawn: right, few slots, not marked. -/
def Drawn (s f c h : Int) (p m : Bool) : Prop := hok s f c h p m = true ∧ 0 ≤ s ∧ s ≤ 5 ∧ m = false ∧ (f ≤ 2 ∨ f = 7)
theorem drawn_head {s f c h : Int} {p : Bool} (s0 : 0 ≤ s) (s1 : s ≤ 5) (hf : f = 0 ∨ f = 1 ∨ (f = 2 ∧ 1 ≤ s) ∨ f = 7) (c0 : 0 ≤ c) (c1 : c ≤ 99) (h0 : 0 ≤ h) (h1 : h ≤ 65535) : Drawn s f c h p false := by
  refine ⟨?_, s0, s1, rfl, by omega⟩
  unfold hok inR
  have e1 : s ≤ 20 := by omega
  rcases hf with rfl | rfl | ⟨rfl, hs⟩ | rfl
  all_goals simp_all

set_option maxHeartbeats 8000000 in
theorem l2Draw_right {W w : World} {bk : Nat} {a : Option Addr} {len cap : Nat} {zs : List Int} (hr : IsRow .u8 W a len cap zs) (hW : Below W.heap.size W w) (hbk : W.heap.size ≤ bk) (hc : Cur w bk a len cap) :
    Calls Try.prog 34 #[.pointer (some ⟨bk, 0, none⟩)] w fun e w' => ∃ (s f c h : Int) (p m : Bool), Drawn s f c h p m ∧ e = .returned (hv s f c h p m) ∧ w.grownBy w' (some bk) ∧ Cur w' bk a len cap := by
  have step : ∀ {w' : World}, w.grownBy w' (some bk) → Below W.heap.size W w' := fun hg => hW.grown hg hW.size (fun k e => by cases e; exact hbk)
  go_enter Try.func34, Try.ntmps34
  go_wp2_with fail
  refine (below_any 6 hr (step (grownBy_alloc (grownBy_refl _ _) _)) hbk (cur_alloc hc _)).mono ?_
  rintro e w1 ⟨s, hs0, _, hs1, rfl, hg1, hc1⟩
  have hs2 := hs1 (by decide)
  clear hs1
  have hg1o := hg1
  have hg1 := grownBy_trans (grownBy_alloc (grownBy_refl _ _) _) hg1
  go_wp2_with fail
  refine (below_any 3 hr (step hg1) hbk hc1).mono ?_
  rintro e w2 ⟨f, hf0, _, hf1, rfl, hg2, hc2⟩
  have hf2 := hf1 (by decide)
  clear hf1
  have hg2o := hg2
  have hg2 := grownBy_trans hg1 hg2
  go_wp2_with fail
  refine (below_any 100 hr (step hg2) hbk hc2).mono ?_
  rintro e w3 ⟨c, hc0, _, hcl, rfl, hg3, hc3⟩
  have hcl2 := hcl (by decide)
  clear hcl
  have hg3o := hg3
  have hg3 := grownBy_trans hg2 hg3
  go_wp2_with fail
  refine (below_any 256 hr (step hg3) hbk hc3).mono ?_
  rintro e w4 ⟨h, hh0, _, hh1, rfl, hg4, hc4⟩
  have hh2 := hh1 (by decide)
  clear hh1
  have hg1' := grownBy_trans (grownBy_trans (grownBy_trans hg1o hg2o) hg3o) hg4
  have hg4 := grownBy_trans hg3 hg4
  clear hg1 hg2 hg3 hc1 hc2 hc3 hg1o hg2o hg3o
  have n2 : w.heap.size ≠ bk := by have := cur_lt hc; omega
  have z4 : w.heap.size < w4.heap.size := by have := hg1'.size; simp at this; omega
  have n3 : w4.heap.size ≠ bk := by have := cur_lt hc4; omega
  have T2 : Hid (HeadAt w4 w.heap.size 0 0 0 0 false false) := headAt_grown (headAt_new w 0 0 0 0 false false) hg1' n2
  by_cases e2 : f = 2
  · by_cases e0 : s = 0
    · subst e2 e0
      go_wp2_with fail
      refine (once_any 8 hr (step (grownBy_alloc hg4 _)) hbk (cur_alloc hc4 _)).mono ?_
      rintro e w5 ⟨b5, rfl, hg5, hc5⟩
      have T3 : HeadAt w5 w4.heap.size _ _ _ _ _ _ := headAt_grown (headAt_new w4 _ _ _ _ _ _) hg5 n3
      have T25 : Hid (HeadAt w5 w.heap.size 0 0 0 0 false false) := headAt_grown (headAt_alloc T2.out _) hg5 n2
      obtain ⟨k0, k1, k2, k3, k4, k5, k6⟩ := headAt_cells T3
      have HT3 := T3
      have hg5 := grownBy_trans (grownBy_alloc hg4 _) hg5
      clear T3
      cases b5
      · go_wp2_with fail
        refine (once_any 8 hr (step hg5) hbk hc5).mono ?_
        rintro e w6 ⟨b6, rfl, hg6, hc6⟩
        have T3 := headAt_grown HT3 hg6 n3
        have T2 := headAt_grown T25.out hg6 n2
        have hg6 := grownBy_trans hg5 hg6
        clear k0 k1 k2 k3 k4 k5 k6
        obtain ⟨k0, k1, k2, k3, k4, k5, k6⟩ := headAt_cells T3
        obtain ⟨l0, l1, l2, l3, l4, l5, l6⟩ := headAt_cells T2
        clear T3
        cases b6
        · go_wp2
          obtain ⟨A, B, C⟩ := six_sets T2 hg6 hc6 (Nat.le_refl _) n2 2 2 c (h * 257) false false
          exact bodyPost_ret (res_head rfl rfl A) rfl ⟨_, _, _, _, _, _, drawn_head (by omega) (by omega) (by omega) (by omega) (by omega) (by omega) (by omega), rfl, B, C⟩
        · go_wp2
          obtain ⟨A, B, C⟩ := six_sets (headAt_other (q := ⟨w4.heap.size, 1, none⟩) T2 (Nat.ne_of_lt z4) (.int .i64 7)) (grownBy_setCell_new (p := ⟨w4.heap.size, 1, none⟩) hg6 (Nat.le_of_lt z4) _) (cur_setCell (p := ⟨w4.heap.size, 1, none⟩) hc6 n3.symm _) (Nat.le_refl _) n2 2 7 c (h * 257) false false
          exact bodyPost_ret (res_head rfl rfl A) rfl ⟨_, _, _, _, _, _, drawn_head (by omega) (by omega) (by omega) (by omega) (by omega) (by omega) (by omega), rfl, B, C⟩
      · go_wp2_with fail
        refine (once_any 8 hr (step (grownBy_setCell_new hg5 (Nat.le_of_lt z4) _)) hbk (cur_setCell hc5 n3.symm _)).mono ?_
        rintro e w6 ⟨b6, rfl, hg6, hc6⟩
        have T3 := headAt_grown (headAt_set4 HT3 true) hg6 n3
        have T2 := headAt_grown (headAt_other T25.out (Nat.ne_of_lt z4) _) hg6 n2
        have hg6 := grownBy_trans (grownBy_setCell_new hg5 (Nat.le_of_lt z4) _) hg6
        clear k0 k1 k2 k3 k4 k5 k6
        obtain ⟨k0, k1, k2, k3, k4, k5, k6⟩ := headAt_cells T3
        obtain ⟨l0, l1, l2, l3, l4, l5, l6⟩ := headAt_cells T2
        clear T3
        cases b6
        · go_wp2
          obtain ⟨A, B, C⟩ := six_sets T2 hg6 hc6 (Nat.le_refl _) n2 2 2 c (h * 257) true false
          exact bodyPost_ret (res_head rfl rfl A) rfl ⟨_, _, _, _, _, _, drawn_head (by omega) (by omega) (by omega) (by omega) (by omega) (by omega) (by omega), rfl, B, C⟩
        · go_wp2
          obtain ⟨A, B, C⟩ := six_sets (headAt_other (q := ⟨w4.heap.size, 1, none⟩) T2 (Nat.ne_of_lt z4) (.int .i64 7)) (grownBy_setCell_new (p := ⟨w4.heap.size, 1, none⟩) hg6 (Nat.le_of_lt z4) _) (cur_setCell (p := ⟨w4.heap.size, 1, none⟩) hc6 n3.symm _) (Nat.le_refl _) n2 2 7 c (h * 257) true false
          exact bodyPost_ret (res_head rfl rfl A) rfl ⟨_, _, _, _, _, _, drawn_head (by omega) (by omega) (by omega) (by omega) (by omega) (by omega) (by omega), rfl, B, C⟩
    · subst e2
      go_wp2_with fail
      refine (once_any 8 hr (step (grownBy_alloc hg4 _)) hbk (cur_alloc hc4 _)).mono ?_
      rintro e w5 ⟨b5, rfl, hg5, hc5⟩
      have T3 : HeadAt w5 w4.heap.size _ _ _ _ _ _ := headAt_grown (headAt_new w4 _ _ _ _ _ _) hg5 n3
      have T25 : Hid (HeadAt w5 w.heap.size 0 0 0 0 false false) := headAt_grown (headAt_alloc T2.out _) hg5 n2
      obtain ⟨k0, k1, k2, k3, k4, k5, k6⟩ := headAt_cells T3
      have HT3 := T3
      have hg5 := grownBy_trans (grownBy_alloc hg4 _) hg5
      clear T3
      cases b5
      · go_wp2_with fail
        refine (once_any 8 hr (step hg5) hbk hc5).mono ?_
        rintro e w6 ⟨b6, rfl, hg6, hc6⟩
        have T3 := headAt_grown HT3 hg6 n3
        have T2 := headAt_grown T25.out hg6 n2
        have hg6 := grownBy_trans hg5 hg6
        clear k0 k1 k2 k3 k4 k5 k6
        obtain ⟨k0, k1, k2, k3, k4, k5, k6⟩ := headAt_cells T3
        obtain ⟨l0, l1, l2, l3, l4, l5, l6⟩ := headAt_cells T2
        clear T3
        cases b6
        · go_wp2
          obtain ⟨A, B, C⟩ := six_sets T2 hg6 hc6 (Nat.le_refl _) n2 s 2 c (h * 257) false false
          exact bodyPost_ret (res_head rfl rfl A) rfl ⟨_, _, _, _, _, _, drawn_head (by omega) (by omega) (by omega) (by omega) (by omega) (by omega) (by omega), rfl, B, C⟩
        · go_wp2
          obtain ⟨A, B, C⟩ := six_sets (headAt_other (q := ⟨w4.heap.size, 1, none⟩) T2 (Nat.ne_of_lt z4) (.int .i64 7)) (grownBy_setCell_new (p := ⟨w4.heap.size, 1, none⟩) hg6 (Nat.le_of_lt z4) _) (cur_setCell (p := ⟨w4.heap.size, 1, none⟩) hc6 n3.symm _) (Nat.le_refl _) n2 s 7 c (h * 257) false false
          exact bodyPost_ret (res_head rfl rfl A) rfl ⟨_, _, _, _, _, _, drawn_head (by omega) (by omega) (by omega) (by omega) (by omega) (by omega) (by omega), rfl, B, C⟩
      · go_wp2_with fail
        refine (once_any 8 hr (step (grownBy_setCell_new hg5 (Nat.le_of_lt z4) _)) hbk (cur_setCell hc5 n3.symm _)).mono ?_
        rintro e w6 ⟨b6, rfl, hg6, hc6⟩
        have T3 := headAt_grown (headAt_set4 HT3 true) hg6 n3
        have T2 := headAt_grown (headAt_other T25.out (Nat.ne_of_lt z4) _) hg6 n2
        have hg6 := grownBy_trans (grownBy_setCell_new hg5 (Nat.le_of_lt z4) _) hg6
        clear k0 k1 k2 k3 k4 k5 k6
        obtain ⟨k0, k1, k2, k3, k4, k5, k6⟩ := headAt_cells T3
        obtain ⟨l0, l1, l2, l3, l4, l5, l6⟩ := headAt_cells T2
        clear T3
        cases b6
        · go_wp2
          obtain ⟨A, B, C⟩ := six_sets T2 hg6 hc6 (Nat.le_refl _) n2 s 2 c (h * 257) true false
          exact bodyPost_ret (res_head rfl rfl A) rfl ⟨_, _, _, _, _, _, drawn_head (by omega) (by omega) (by omega) (by omega) (by omega) (by omega) (by omega), rfl, B, C⟩
        · go_wp2
          obtain ⟨A, B, C⟩ := six_sets (headAt_other (q := ⟨w4.heap.size, 1, none⟩) T2 (Nat.ne_of_lt z4) (.int .i64 7)) (grownBy_setCell_new (p := ⟨w4.heap.size, 1, none⟩) hg6 (Nat.le_of_lt z4) _) (cur_setCell (p := ⟨w4.heap.size, 1, none⟩) hc6 n3.symm _) (Nat.le_refl _) n2 s 7 c (h * 257) true false
          exact bodyPost_ret (res_head rfl rfl A) rfl ⟨_, _, _, _, _, _, drawn_head (by omega) (by omega) (by omega) (by omega) (by omega) (by omega) (by omega), rfl, B, C⟩
  · go_wp2_with fail
    refine (once_any 8 hr (step (grownBy_alloc hg4 _)) hbk (cur_alloc hc4 _)).mono ?_
    rintro e w5 ⟨b5, rfl, hg5, hc5⟩
    have T3 : HeadAt w5 w4.heap.size _ _ _ _ _ _ := headAt_grown (headAt_new w4 _ _ _ _ _ _) hg5 n3
    have T25 : Hid (HeadAt w5 w.heap.size 0 0 0 0 false false) := headAt_grown (headAt_alloc T2.out _) hg5 n2
    obtain ⟨k0, k1, k2, k3, k4, k5, k6⟩ := headAt_cells T3
    have HT3 := T3
    have hg5 := grownBy_trans (grownBy_alloc hg4 _) hg5
    clear T3
    cases b5
    · go_wp2_with fail
      refine (once_any 8 hr (step hg5) hbk hc5).mono ?_
      rintro e w6 ⟨b6, rfl, hg6, hc6⟩
      have T3 := headAt_grown HT3 hg6 n3
      have T2 := headAt_grown T25.out hg6 n2
      have hg6 := grownBy_trans hg5 hg6
      clear k0 k1 k2 k3 k4 k5 k6
      obtain ⟨k0, k1, k2, k3, k4, k5, k6⟩ := headAt_cells T3
      obtain ⟨l0, l1, l2, l3, l4, l5, l6⟩ := headAt_cells T2
      clear T3
      cases b6
      · go_wp2
        obtain ⟨A, B, C⟩ := six_sets T2 hg6 hc6 (Nat.le_refl _) n2 s f c (h * 257) false false
        exact bodyPost_ret (res_head rfl rfl A) rfl ⟨_, _, _, _, _, _, drawn_head (by omega) (by omega) (by omega) (by omega) (by omega) (by omega) (by omega), rfl, B, C⟩
      · go_wp2
        obtain ⟨A, B, C⟩ := six_sets (headAt_other (q := ⟨w4.heap.size, 1, none⟩) T2 (Nat.ne_of_lt z4) (.int .i64 7)) (grownBy_setCell_new (p := ⟨w4.heap.size, 1, none⟩) hg6 (Nat.le_of_lt z4) _) (cur_setCell (p := ⟨w4.heap.size, 1, none⟩) hc6 n3.symm _) (Nat.le_refl _) n2 s 7 c (h * 257) false false
        exact bodyPost_ret (res_head rfl rfl A) rfl ⟨_, _, _, _, _, _, drawn_head (by omega) (by omega) (by omega) (by omega) (by omega) (by omega) (by omega), rfl, B, C⟩
    · go_wp2_with fail
      refine (once_any 8 hr (step (grownBy_setCell_new hg5 (Nat.le_of_lt z4) _)) hbk (cur_setCell hc5 n3.symm _)).mono ?_
      rintro e w6 ⟨b6, rfl, hg6, hc6⟩
      have T3 := headAt_grown (headAt_set4 HT3 true) hg6 n3
      have T2 := headAt_grown (headAt_other T25.out (Nat.ne_of_lt z4) _) hg6 n2
      have hg6 := grownBy_trans (grownBy_setCell_new hg5 (Nat.le_of_lt z4) _) hg6
      clear k0 k1 k2 k3 k4 k5 k6
      obtain ⟨k0, k1, k2, k3, k4, k5, k6⟩ := headAt_cells T3
      obtain ⟨l0, l1, l2, l3, l4, l5, l6⟩ := headAt_cells T2
      clear T3
      cases b6
      · go_wp2
        obtain ⟨A, B, C⟩ := six_sets T2 hg6 hc6 (Nat.le_refl _) n2 s f c (h * 257) true false
        exact bodyPost_ret (res_head rfl rfl A) rfl ⟨_, _, _, _, _, _, drawn_head (by omega) (by omega) (by omega) (by omega) (by omega) (by omega) (by omega), rfl, B, C⟩
      · go_wp2
        obtain ⟨A, B, C⟩ := six_sets (headAt_other (q := ⟨w4.heap.size, 1, none⟩) T2 (Nat.ne_of_lt z4) (.int .i64 7)) (grownBy_setCell_new (p := ⟨w4.heap.size, 1, none⟩) hg6 (Nat.le_of_lt z4) _) (cur_setCell (p := ⟨w4.heap.size, 1, none⟩) hc6 n3.symm _) (Nat.le_refl _) n2 s 7 c (h * 257) true false
        exact bodyPost_ret (res_head rfl rfl A) rfl ⟨_, _, _, _, _, _, drawn_head (by omega) (by omega) (by omega) (by omega) (by omega) (by omega) (by omega), rfl, B, C⟩
theorem l2Draw_any {W w : World} {bk : Nat} {a : Option Addr} {len cap : Nat} {zs : List Int} (hr : IsRow .u8 W a len cap zs) (hW : Below W.heap.size W w) (hbk : W.heap.size ≤ bk) (hc : Cur w bk a len cap) :
    Calls Try.prog 34 #[.pointer (some ⟨bk, 0, none⟩)] w fun e w' => ∃ (s f c h : Int) (p m : Bool), e = .returned (hv s f c h p m) ∧ w.grownBy w' (some bk) ∧ Cur w' bk a len cap :=
  (l2Draw_right hr hW hbk hc).mono fun _ _ ⟨s, f, c, h, p, m, _, he⟩ => ⟨s, f, c, h, p, m, he⟩

end Go.Proofs.Ytlfnjdgkpocanaa.draw
