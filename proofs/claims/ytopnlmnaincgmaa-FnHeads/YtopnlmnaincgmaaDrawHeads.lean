/-
  The draws of chapter 2: each returns some head (or number) and writes into no memory that was there, but for the cursor's own block.
  Made from the template DrawHeads.
-/
import Derived.Test.YtopnlmnaincgmaaDrawMore
import Derived.Test.YtopnlmnaincgmaaPack
namespace Go.Proofs.Ytopnlmnaincgmaa.draw
open Go.RowKit heads

/-- The block b holds such a head. -/
def HeadAt (w : World) (b : Nat) (s f c h : Int) (p m : Bool) : Prop := w.heap[b]? = some (.cells #[.int .i64 s, .int .i64 f, .int .i64 c, .int .i64 h, .bool p, .bool m] 30 (0, 0))

theorem headAt_cells {w : World} {b : Nat} {s f c h : Int} {p m : Bool} (hh : HeadAt w b s f c h p m) :
    w.cell? ⟨b, 0, none⟩ = some (.int .i64 s) ∧ w.cell? ⟨b, 1, none⟩ = some (.int .i64 f) ∧ w.cell? ⟨b, 2, none⟩ = some (.int .i64 c) ∧ w.cell? ⟨b, 3, none⟩ = some (.int .i64 h) ∧ w.cell? ⟨b, 4, none⟩ = some (.bool p) ∧ w.cell? ⟨b, 5, none⟩ = some (.bool m) ∧ ∀ k, w.frozen? ⟨b, k, none⟩ = false := by
  unfold HeadAt at hh
  refine ⟨?_, ?_, ?_, ?_, ?_, ?_, fun k => ?_⟩
  all_goals simp [World.cell?, World.frozen?, hh]

theorem headAt_grown {w w' : World} {bk b : Nat} {s f c h : Int} {p m : Bool} (hh : HeadAt w b s f c h p m) (hg : w.grownBy w' (some bk)) (hne : b ≠ bk) : HeadAt w' b s f c h p m := grownBy_block hg hh hne
theorem headAt_alloc {w : World} {b : Nat} {s f c h : Int} {p m : Bool} (hh : HeadAt w b s f c h p m) (o : Obj) : HeadAt (w.alloc o) b s f c h p m := (Below.heap_alloc w o b (lt_of_block hh)).trans hh
theorem headAt_new (w : World) (s f c h : Int) (p m : Bool) : HeadAt (w.alloc (hb s f c h p m)) w.heap.size s f c h p m := heap_alloc_new w _
theorem headAt_other {w : World} {b : Nat} {s f c h : Int} {p m : Bool} (hh : HeadAt w b s f c h p m) {q : Addr} (hne : b ≠ q.block) (u : Value) : HeadAt (w.setCell q u) b s f c h p m := (Below.heap_setCell w q u b hne).trans hh
theorem headAt_set0 {w : World} {b : Nat} {s f c h : Int} {p m : Bool} (hh : HeadAt w b s f c h p m) (x : Int) : HeadAt (w.setCell ⟨b, 0, none⟩ (.int .i64 x)) b x f c h p m := (three_setCell hh 0 _).trans rfl
theorem headAt_set1 {w : World} {b : Nat} {s f c h : Int} {p m : Bool} (hh : HeadAt w b s f c h p m) (x : Int) : HeadAt (w.setCell ⟨b, 1, none⟩ (.int .i64 x)) b s x c h p m := (three_setCell hh 1 _).trans rfl
theorem headAt_set2 {w : World} {b : Nat} {s f c h : Int} {p m : Bool} (hh : HeadAt w b s f c h p m) (x : Int) : HeadAt (w.setCell ⟨b, 2, none⟩ (.int .i64 x)) b s f x h p m := (three_setCell hh 2 _).trans rfl
theorem headAt_set3 {w : World} {b : Nat} {s f c h : Int} {p m : Bool} (hh : HeadAt w b s f c h p m) (x : Int) : HeadAt (w.setCell ⟨b, 3, none⟩ (.int .i64 x)) b s f c x p m := (three_setCell hh 3 _).trans rfl
theorem headAt_set4 {w : World} {b : Nat} {s f c h : Int} {p m : Bool} (hh : HeadAt w b s f c h p m) (x : Bool) : HeadAt (w.setCell ⟨b, 4, none⟩ (.bool x)) b s f c h x m := (three_setCell hh 4 _).trans rfl
theorem headAt_set5 {w : World} {b : Nat} {s f c h : Int} {p m : Bool} (hh : HeadAt w b s f c h p m) (x : Bool) : HeadAt (w.setCell ⟨b, 5, none⟩ (.bool x)) b s f c h p x := (three_setCell hh 5 _).trans rfl

theorem res_head {fn : Func} {tmps : Array Value} {X : World} {b : Nat} {s f c h : Int} {p m : Bool} (hf : fn.results = #[.cell 2 30]) (h2 : tmps[2]? = some (.pointer (some ⟨b, 0, none⟩))) (hX : HeadAt X b s f c h p m) :
    (results fn tmps).run Try.prog X = .ok (hv s f c h p m) X := by
  obtain ⟨k0, k1, k2, k3, k4, k5, _⟩ := headAt_cells hX
  clear hX
  simp [results, hf, h2, go_sem, k0, k1, k2, k3, k4, k5]

/-- A whole head stored into a block of its own. -/
theorem six_sets {w X : World} {bk b : Nat} {a : Option Addr} {len cap : Nat} {s' f' c' h' : Int} {p' m' : Bool} (T : HeadAt X b s' f' c' h' p' m') (hg : w.grownBy X (some bk)) (hc : Cur X bk a len cap) (hb : w.heap.size ≤ b) (hne : b ≠ bk) (s f c h : Int) (p m : Bool) :
    HeadAt ((((((X.setCell ⟨b, 0, none⟩ (.int .i64 s)).setCell ⟨b, 1, none⟩ (.int .i64 f)).setCell ⟨b, 2, none⟩ (.int .i64 c)).setCell ⟨b, 3, none⟩ (.int .i64 h)).setCell ⟨b, 4, none⟩ (.bool p)).setCell ⟨b, 5, none⟩ (.bool m)) b s f c h p m ∧
    w.grownBy ((((((X.setCell ⟨b, 0, none⟩ (.int .i64 s)).setCell ⟨b, 1, none⟩ (.int .i64 f)).setCell ⟨b, 2, none⟩ (.int .i64 c)).setCell ⟨b, 3, none⟩ (.int .i64 h)).setCell ⟨b, 4, none⟩ (.bool p)).setCell ⟨b, 5, none⟩ (.bool m)) (some bk) ∧
    Cur ((((((X.setCell ⟨b, 0, none⟩ (.int .i64 s)).setCell ⟨b, 1, none⟩ (.int .i64 f)).setCell ⟨b, 2, none⟩ (.int .i64 c)).setCell ⟨b, 3, none⟩ (.int .i64 h)).setCell ⟨b, 4, none⟩ (.bool p)).setCell ⟨b, 5, none⟩ (.bool m)) bk a len cap :=
  ⟨headAt_set5 (headAt_set4 (headAt_set3 (headAt_set2 (headAt_set1 (headAt_set0 T _) _) _) _) _) _,
   grownBy_setCell_new (grownBy_setCell_new (grownBy_setCell_new (grownBy_setCell_new (grownBy_setCell_new (grownBy_setCell_new hg hb _) hb _) hb _) hb _) hb _) hb _,
   cur_setCell (cur_setCell (cur_setCell (cur_setCell (cur_setCell (cur_setCell hc hne.symm _) hne.symm _) hne.symm _) hne.symm _) hne.symm _) hne.symm _⟩

set_option maxHeartbeats 8000000 in
theorem l2Draw_any {W w : World} {bk : Nat} {a : Option Addr} {len cap : Nat} {zs : List Int} (hr : IsRow .u8 W a len cap zs) (hW : Below W.heap.size W w) (hbk : W.heap.size ≤ bk) (hc : Cur w bk a len cap) :
    Calls Try.prog 82 #[.pointer (some ⟨bk, 0, none⟩)] w fun e w' => ∃ (s f c h : Int) (p m : Bool), e = .returned (hv s f c h p m) ∧ w.grownBy w' (some bk) ∧ Cur w' bk a len cap := by
  have step : ∀ {w' : World}, w.grownBy w' (some bk) → Below W.heap.size W w' := fun hg => hW.grown hg hW.size (fun k e => by cases e; exact hbk)
  go_enter Try.func82, Try.ntmps82
  go_wp2_with fail
  refine (below_any 6 hr (step (grownBy_alloc (grownBy_refl _ _) _)) hbk (cur_alloc hc _)).mono ?_
  rintro e w1 ⟨s, hs0, _, hs1, rfl, hg1, hc1⟩
  have hs2 := hs1 (by decide)
  clear hs1
  have hg1o := hg1
  have hg1 := grownBy_trans (grownBy_alloc (grownBy_refl _ _) _) hg1
  go_wp2_with fail
  refine (below_any 3 hr (step hg1) hbk hc1).mono ?_
  rintro e w2 ⟨f, hf0, _, hf1, rfl, hg2, hc2⟩
  have hf2 := hf1 (by decide)
  clear hf1
  have hg2o := hg2
  have hg2 := grownBy_trans hg1 hg2
  go_wp2_with fail
  refine (below_any 100 hr (step hg2) hbk hc2).mono ?_
  rintro e w3 ⟨c, hc0, _, hcl, rfl, hg3, hc3⟩
  have hcl2 := hcl (by decide)
  clear hcl
  have hg3o := hg3
  have hg3 := grownBy_trans hg2 hg3
  go_wp2_with fail
  refine (below_any 256 hr (step hg3) hbk hc3).mono ?_
  rintro e w4 ⟨h, hh0, _, hh1, rfl, hg4, hc4⟩
  have hh2 := hh1 (by decide)
  clear hh1
  have hg1' := grownBy_trans (grownBy_trans (grownBy_trans hg1o hg2o) hg3o) hg4
  have hg4 := grownBy_trans hg3 hg4
  clear hg1 hg2 hg3 hc1 hc2 hc3 hg1o hg2o hg3o
  have n2 : w.heap.size ≠ bk := by have := cur_lt hc; omega
  have z4 : w.heap.size < w4.heap.size := by have := hg1'.size; simp at this; omega
  have n3 : w4.heap.size ≠ bk := by have := cur_lt hc4; omega
  have T2 : Hid (HeadAt w4 w.heap.size 0 0 0 0 false false) := headAt_grown (headAt_new w 0 0 0 0 false false) hg1' n2
  by_cases e2 : f = 2
  · by_cases e0 : s = 0
    · subst e2 e0
      go_wp2_with fail
      refine (once_any 8 hr (step (grownBy_alloc hg4 _)) hbk (cur_alloc hc4 _)).mono ?_
      rintro e w5 ⟨b5, rfl, hg5, hc5⟩
      have T3 : HeadAt w5 w4.heap.size _ _ _ _ _ _ := headAt_grown (headAt_new w4 _ _ _ _ _ _) hg5 n3
      have T25 : Hid (HeadAt w5 w.heap.size 0 0 0 0 false false) := headAt_grown (headAt_alloc T2.out _) hg5 n2
      obtain ⟨k0, k1, k2, k3, k4, k5, k6⟩ := headAt_cells T3
      have HT3 := T3
      have hg5 := grownBy_trans (grownBy_alloc hg4 _) hg5
      clear T3
      cases b5
      · go_wp2_with fail
        refine (once_any 8 hr (step hg5) hbk hc5).mono ?_
        rintro e w6 ⟨b6, rfl, hg6, hc6⟩
        have T3 := headAt_grown HT3 hg6 n3
        have T2 := headAt_grown T25.out hg6 n2
        have hg6 := grownBy_trans hg5 hg6
        clear k0 k1 k2 k3 k4 k5 k6
        obtain ⟨k0, k1, k2, k3, k4, k5, k6⟩ := headAt_cells T3
        obtain ⟨l0, l1, l2, l3, l4, l5, l6⟩ := headAt_cells T2
        clear T3
        cases b6
        · go_wp2
          obtain ⟨A, B, C⟩ := six_sets T2 hg6 hc6 (Nat.le_refl _) n2 2 2 c (h * 257) false false
          exact bodyPost_ret (res_head rfl rfl A) rfl ⟨_, _, _, _, _, _, rfl, B, C⟩
        · go_wp2
          obtain ⟨A, B, C⟩ := six_sets (headAt_other (q := ⟨w4.heap.size, 1, none⟩) T2 (Nat.ne_of_lt z4) (.int .i64 7)) (grownBy_setCell_new (p := ⟨w4.heap.size, 1, none⟩) hg6 (Nat.le_of_lt z4) _) (cur_setCell (p := ⟨w4.heap.size, 1, none⟩) hc6 n3.symm _) (Nat.le_refl _) n2 2 7 c (h * 257) false false
          exact bodyPost_ret (res_head rfl rfl A) rfl ⟨_, _, _, _, _, _, rfl, B, C⟩
      · go_wp2_with fail
        refine (once_any 8 hr (step (grownBy_setCell_new hg5 (Nat.le_of_lt z4) _)) hbk (cur_setCell hc5 n3.symm _)).mono ?_
        rintro e w6 ⟨b6, rfl, hg6, hc6⟩
        have T3 := headAt_grown (headAt_set4 HT3 true) hg6 n3
        have T2 := headAt_grown (headAt_other T25.out (Nat.ne_of_lt z4) _) hg6 n2
        have hg6 := grownBy_trans (grownBy_setCell_new hg5 (Nat.le_of_lt z4) _) hg6
        clear k0 k1 k2 k3 k4 k5 k6
        obtain ⟨k0, k1, k2, k3, k4, k5, k6⟩ := headAt_cells T3
        obtain ⟨l0, l1, l2, l3, l4, l5, l6⟩ := headAt_cells T2
        clear T3
        cases b6
        · go_wp2
          obtain ⟨A, B, C⟩ := six_sets T2 hg6 hc6 (Nat.le_refl _) n2 2 2 c (h * 257) true false
          exact bodyPost_ret (res_head rfl rfl A) rfl ⟨_, _, _, _, _, _, rfl, B, C⟩
        · go_wp2
          obtain ⟨A, B, C⟩ := six_sets (headAt_other (q := ⟨w4.heap.size, 1, none⟩) T2 (Nat.ne_of_lt z4) (.int .i64 7)) (grownBy_setCell_new (p := ⟨w4.heap.size, 1, none⟩) hg6 (Nat.le_of_lt z4) _) (cur_setCell (p := ⟨w4.heap.size, 1, none⟩) hc6 n3.symm _) (Nat.le_refl _) n2 2 7 c (h * 257) true false
          exact bodyPost_ret (res_head rfl rfl A) rfl ⟨_, _, _, _, _, _, rfl, B, C⟩
    · subst e2
      go_wp2_with fail
      refine (once_any 8 hr (step (grownBy_alloc hg4 _)) hbk (cur_alloc hc4 _)).mono ?_
      rintro e w5 ⟨b5, rfl, hg5, hc5⟩
      have T3 : HeadAt w5 w4.heap.size _ _ _ _ _ _ := headAt_grown (headAt_new w4 _ _ _ _ _ _) hg5 n3
      have T25 : Hid (HeadAt w5 w.heap.size 0 0 0 0 false false) := headAt_grown (headAt_alloc T2.out _) hg5 n2
      obtain ⟨k0, k1, k2, k3, k4, k5, k6⟩ := headAt_cells T3
      have HT3 := T3
      have hg5 := grownBy_trans (grownBy_alloc hg4 _) hg5
      clear T3
      cases b5
      · go_wp2_with fail
        refine (once_any 8 hr (step hg5) hbk hc5).mono ?_
        rintro e w6 ⟨b6, rfl, hg6, hc6⟩
        have T3 := headAt_grown HT3 hg6 n3
        have T2 := headAt_grown T25.out hg6 n2
        have hg6 := grownBy_trans hg5 hg6
        clear k0 k1 k2 k3 k4 k5 k6
        obtain ⟨k0, k1, k2, k3, k4, k5, k6⟩ := headAt_cells T3
        obtain ⟨l0, l1, l2, l3, l4, l5, l6⟩ := headAt_cells T2
        clear T3
        cases b6
        · go_wp2
          obtain ⟨A, B, C⟩ := six_sets T2 hg6 hc6 (Nat.le_refl _) n2 s 2 c (h * 257) false false
          exact bodyPost_ret (res_head rfl rfl A) rfl ⟨_, _, _, _, _, _, rfl, B, C⟩
        · go_wp2
          obtain ⟨A, B, C⟩ := six_sets (headAt_other (q := ⟨w4.heap.size, 1, none⟩) T2 (Nat.ne_of_lt z4) (.int .i64 7)) (grownBy_setCell_new (p := ⟨w4.heap.size, 1, none⟩) hg6 (Nat.le_of_lt z4) _) (cur_setCell (p := ⟨w4.heap.size, 1, none⟩) hc6 n3.symm _) (Nat.le_refl _) n2 s 7 c (h * 257) false false
          exact bodyPost_ret (res_head rfl rfl A) rfl ⟨_, _, _, _, _, _, rfl, B, C⟩
      · go_wp2_with fail
        refine (once_any 8 hr (step (grownBy_setCell_new hg5 (Nat.le_of_lt z4) _)) hbk (cur_setCell hc5 n3.symm _)).mono ?_
        rintro e w6 ⟨b6, rfl, hg6, hc6⟩
        have T3 := headAt_grown (headAt_set4 HT3 true) hg6 n3
        have T2 := headAt_grown (headAt_other T25.out (Nat.ne_of_lt z4) _) hg6 n2
        have hg6 := grownBy_trans (grownBy_setCell_new hg5 (Nat.le_of_lt z4) _) hg6
        clear k0 k1 k2 k3 k4 k5 k6
        obtain ⟨k0, k1, k2, k3, k4, k5, k6⟩ := headAt_cells T3
        obtain ⟨l0, l1, l2, l3, l4, l5, l6⟩ := headAt_cells T2
        clear T3
        cases b6
        · go_wp2
          obtain ⟨A, B, C⟩ := six_sets T2 hg6 hc6 (Nat.le_refl _) n2 s 2 c (h * 257) true false
          exact bodyPost_ret (res_head rfl rfl A) rfl ⟨_, _, _, _, _, _, rfl, B, C⟩
        · go_wp2
          obtain ⟨A, B, C⟩ := six_sets (headAt_other (q := ⟨w4.heap.size, 1, none⟩) T2 (Nat.ne_of_lt z4) (.int .i64 7)) (grownBy_setCell_new (p := ⟨w4.heap.size, 1, none⟩) hg6 (Nat.le_of_lt z4) _) (cur_setCell (p := ⟨w4.heap.size, 1, none⟩) hc6 n3.symm _) (Nat.le_refl _) n2 s 7 c (h * 257) true false
          exact bodyPost_ret (res_head rfl rfl A) rfl ⟨_, _, _, _, _, _, rfl, B, C⟩
  · go_wp2_with fail
    refine (once_any 8 hr (step (grownBy_alloc hg4 _)) hbk (cur_alloc hc4 _)).mono ?_
    rintro e w5 ⟨b5, rfl, hg5, hc5⟩
    have T3 : HeadAt w5 w4.heap.size _ _ _ _ _ _ := headAt_grown (headAt_new w4 _ _ _ _ _ _) hg5 n3
    have T25 : Hid (HeadAt w5 w.heap.size 0 0 0 0 false false) := headAt_grown (headAt_alloc T2.out _) hg5 n2
    obtain ⟨k0, k1, k2, k3, k4, k5, k6⟩ := headAt_cells T3
    have HT3 := T3
    have hg5 := grownBy_trans (grownBy_alloc hg4 _) hg5
    clear T3
    cases b5
    · go_wp2_with fail
      refine (once_any 8 hr (step hg5) hbk hc5).mono ?_
      rintro e w6 ⟨b6, rfl, hg6, hc6⟩
      have T3 := headAt_grown HT3 hg6 n3
      have T2 := headAt_grown T25.out hg6 n2
      have hg6 := grownBy_trans hg5 hg6
      clear k0 k1 k2 k3 k4 k5 k6
      obtain ⟨k0, k1, k2, k3, k4, k5, k6⟩ := headAt_cells T3
      obtain ⟨l0, l1, l2, l3, l4, l5, l6⟩ := headAt_cells T2
      clear T3
      cases b6
      · go_wp2
        obtain ⟨A, B, C⟩ := six_sets T2 hg6 hc6 (Nat.le_refl _) n2 s f c (h * 257) false false
        exact bodyPost_ret (res_head rfl rfl A) rfl ⟨_, _, _, _, _, _, rfl, B, C⟩
      · go_wp2
        obtain ⟨A, B, C⟩ := six_sets (headAt_other (q := ⟨w4.heap.size, 1, none⟩) T2 (Nat.ne_of_lt z4) (.int .i64 7)) (grownBy_setCell_new (p := ⟨w4.heap.size, 1, none⟩) hg6 (Nat.le_of_lt z4) _) (cur_setCell (p := ⟨w4.heap.size, 1, none⟩) hc6 n3.symm _) (Nat.le_refl _) n2 s 7 c (h * 257) false false
        exact bodyPost_ret (res_head rfl rfl A) rfl ⟨_, _, _, _, _, _, rfl, B, C⟩
    · go_wp2_with fail
      refine (once_any 8 hr (step (grownBy_setCell_new hg5 (Nat.le_of_lt z4) _)) hbk (cur_setCell hc5 n3.symm _)).mono ?_
      rintro e w6 ⟨b6, rfl, hg6, hc6⟩
      have T3 := headAt_grown (headAt_set4 HT3 true) hg6 n3
      have T2 := headAt_grown (headAt_other T25.out (Nat.ne_of_lt z4) _) hg6 n2
      have hg6 := grownBy_trans (grownBy_setCell_new hg5 (Nat.le_of_lt z4) _) hg6
      clear k0 k1 k2 k3 k4 k5 k6
      obtain ⟨k0, k1, k2, k3, k4, k5, k6⟩ := headAt_cells T3
      obtain ⟨l0, l1, l2, l3, l4, l5, l6⟩ := headAt_cells T2
      clear T3
      cases b6
      · go_wp2
        obtain ⟨A, B, C⟩ := six_sets T2 hg6 hc6 (Nat.le_refl _) n2 s f c (h * 257) true false
        exact bodyPost_ret (res_head rfl rfl A) rfl ⟨_, _, _, _, _, _, rfl, B, C⟩
      · go_wp2
        obtain ⟨A, B, C⟩ := six_sets (headAt_other (q := ⟨w4.heap.size, 1, none⟩) T2 (Nat.ne_of_lt z4) (.int .i64 7)) (grownBy_setCell_new (p := ⟨w4.heap.size, 1, none⟩) hg6 (Nat.le_of_lt z4) _) (cur_setCell (p := ⟨w4.heap.size, 1, none⟩) hc6 n3.symm _) (Nat.le_refl _) n2 s 7 c (h * 257) true false
        exact bodyPost_ret (res_head rfl rfl A) rfl ⟨_, _, _, _, _, _, rfl, B, C⟩
end Go.Proofs.Ytopnlmnaincgmaa.draw
