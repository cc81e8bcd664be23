/-
  Chapter 8 as the program has it: free chunks by size, held against each other and changing places.
  Made from the template FitI1 (mkfit1.py).
-/
import Derived.Test.YthfhjgkpabkeaaaGreatCoalI1
import Derived.Test.YthfhjgkpabkeaaaGreatM7
import Derived.Test.YthfhjgkpabkeaaaGreatM3
import Derived.Test.YthfhjgkpabkeaaaGreatM2
import Derived.Deep.RegionLaw
namespace Go.Proofs.YthfhjgkpabkeaaaGreat.walks
open Go.RowKit rows heads words region
set_option maxRecDepth 100000
set_option linter.unusedVariables false
set_option linter.unusedSimpArgs false

theorem cellW_of {w : World} {b : Nat} {cs : List Value} {t : TypeId} (h : w.heap[b]? = some (.cells cs.toArray t (0, 0))) {i : Nat} {u : Value} (hu : cs[i]? = some u) : w.cell? ⟨b, i, none⟩ = some u := by simp [World.cell?, h, hu]
def cmpW (x y : Int) : Int := if x < y then -1 else if y < x then 1 else 0
def orW (u v : Int) : Int := if u = 0 then v else u
theorem compareW_any (x y : Int) (w : World) : Calls Tryz.prog 135 #[.int .i64 x, .int .i64 y] w fun e w' => e = .returned (.int .i64 (cmpW x y)) ∧ w' = w := by
  by_cases h1 : x < y
  · have ER : Hid (cmpW x y = -1) := by show _ = _; unfold cmpW; rw [if_pos h1]
    go_enter Tryz.func135, Tryz.ntmps135
    go_wp2
    go_ret
    exact ⟨by rw [ER.out]; rfl, rfl⟩
  · by_cases h2 : y < x
    · have ER : Hid (cmpW x y = 1) := by show _ = _; unfold cmpW; rw [if_neg h1, if_pos h2]
      go_enter Tryz.func135, Tryz.ntmps135
      go_wp2
      go_ret
      exact ⟨by rw [ER.out]; rfl, rfl⟩
    · have ER : Hid (cmpW x y = 0) := by show _ = _; unfold cmpW; rw [if_neg h1, if_neg h2]
      go_enter Tryz.func135, Tryz.ntmps135
      go_wp2
      go_ret
      exact ⟨by rw [ER.out]; rfl, rfl⟩
set_option maxHeartbeats 2000000 in
theorem orW_any {w : World} {b : Nat} {u v : Int} (h0 : w.cell? ⟨b, 0, none⟩ = some (.int .i64 u)) (h1 : w.cell? ⟨b, 1, none⟩ = some (.int .i64 v)) :
    Calls Tryz.prog 182 #[.slice (some ⟨b, 0, none⟩) 2 2] w fun e w' => e = .returned (.int .i64 (orW u v)) ∧ w' = w := by
  by_cases hu : u = 0
  · subst hu
    have ER : Hid (orW 0 v = v) := rfl
    by_cases hv : v = 0
    · subst hv
      go_enter Tryz.func182, Tryz.ntmps182
      go_wp2_with fail
      refine wp_loop_rounds 3 ?_
      rw [rounds_succ]
      go_wp2
      rw [rounds_succ]
      go_wp2
      rw [rounds_succ]
      go_wp2
      go_ret
      exact ⟨rfl, rfl⟩
    · have hv' : (v != 0) = true := by simpa using hv
      go_enter Tryz.func182, Tryz.ntmps182
      go_wp2_with fail
      refine wp_loop_rounds 2 ?_
      rw [rounds_succ]
      go_wp2
      rw [rounds_succ]
      go_wp2
      go_ret
      exact ⟨rfl, rfl⟩
  · have hu' : (u != 0) = true := by simpa using hu
    have ER : Hid (orW u v = u) := by show _ = _; unfold orW; rw [if_neg hu]
    go_enter Tryz.func182, Tryz.ntmps182
    go_wp2_with fail
    refine wp_loop_rounds 1 ?_
    rw [rounds_succ]
    go_wp2
    go_ret
    exact ⟨by rw [ER.out]; rfl, rfl⟩
theorem less_is (x y : Run) : decide (orW (cmpW x.2 y.2) (cmpW x.1 y.1) < 0) = ltF x y := by
  obtain ⟨a, n⟩ := x
  obtain ⟨b, m⟩ := y
  unfold ltF orW cmpW
  simp only
  by_cases h1 : (n : Int) < m
  · have e : n < m := by omega
    simp [h1, e]
  · by_cases h2 : (m : Int) < n
    · have e1 : ¬ n < m := by omega
      have e2 : ¬ n = m := by omega
      simp [h1, h2, e1, e2]
    · have e1 : n = m := by omega
      subst e1
      by_cases h3 : (a : Int) < b
      · have e : a < b := by omega
        simp [h3, e]
      · have e : ¬ a < b := by omega
        by_cases h4 : (b : Int) < a
        · simp [h3, h4, e]
        · simp [h3, h4, e]
def dLs (k : Nat) : Nat := 7 + k
theorem dLs_inj : ∀ k, k < 25 → ∀ j, j < 25 → dLs j = dLs k → j = k := fun k _ j _ e => by unfold dLs at e; omega
def DLs (s : Nat) : Bool := decide (6 ≤ s) && decide (s ≤ 31)
def FLs (g n c i j : Nat) (x y : Run) (k : Nat) (t : Value) (w : World) : Prop :=
  match k with
  | 0 => t = .slice (some ⟨g, 0, none⟩) n c
  | 1 => t = .int .i64 (i : Int)
  | 2 => t = .pointer (some ⟨g, i * 2, none⟩)
  | 3 => t = .pointer (some ⟨g, i * 2 + 1, none⟩)
  | 4 => t = .int .i64 (x.2 : Int)
  | 5 => t = .slice (some ⟨g, 0, none⟩) n c
  | 6 => t = .int .i64 (j : Int)
  | 7 => t = .pointer (some ⟨g, j * 2, none⟩)
  | 8 => t = .pointer (some ⟨g, j * 2 + 1, none⟩)
  | 9 => t = .int .i64 (y.2 : Int)
  | 10 => t = .int .i64 (cmpW x.2 y.2)
  | 11 => t = .slice (some ⟨g, 0, none⟩) n c
  | 12 => t = .int .i64 (i : Int)
  | 13 => t = .pointer (some ⟨g, i * 2, none⟩)
  | 14 => t = .pointer (some ⟨g, i * 2, none⟩)
  | 15 => t = .int .i64 (x.1 : Int)
  | 16 => t = .slice (some ⟨g, 0, none⟩) n c
  | 17 => t = .int .i64 (j : Int)
  | 18 => t = .pointer (some ⟨g, j * 2, none⟩)
  | 19 => t = .pointer (some ⟨g, j * 2, none⟩)
  | 20 => t = .int .i64 (y.1 : Int)
  | 21 => t = .int .i64 (cmpW x.1 y.1)
  | 22 => ∃ b, t = .slice (some ⟨b, 0, none⟩) 2 2 ∧ w.heap[b]? = some (.cells #[.int .i64 (cmpW x.2 y.2), .int .i64 (cmpW x.1 y.1)] 3 (0, 0))
  | 23 => t = .int .i64 (orW (cmpW x.2 y.2) (cmpW x.1 y.1))
  | 24 => t = .bool (decide (orW (cmpW x.2 y.2) (cmpW x.1 y.1) < 0))
  | _ => False
theorem FLs_st {g n c i j : Nat} {x y : Run} (k : Nat) (t : Value) (W W' : World) (hb : Below W.heap.size W W') (h : FLs g n c i j x y k t W) : FLs g n c i j x y k t W' := by
  match k, h with
  | 0, h => exact h
  | 1, h => exact h
  | 2, h => exact h
  | 3, h => exact h
  | 4, h => exact h
  | 5, h => exact h
  | 6, h => exact h
  | 7, h => exact h
  | 8, h => exact h
  | 9, h => exact h
  | 10, h => exact h
  | 11, h => exact h
  | 12, h => exact h
  | 13, h => exact h
  | 14, h => exact h
  | 15, h => exact h
  | 16, h => exact h
  | 17, h => exact h
  | 18, h => exact h
  | 19, h => exact h
  | 20, h => exact h
  | 21, h => exact h
  | 22, ⟨b, h1, h2⟩ => exact ⟨b, h1, (hb.block b (lt_of_block h2)).trans h2⟩
  | 23, h => exact h
  | 24, h => exact h
  | _ + 25, h => exact h.elim
theorem ri_twoW (u v : Int) (w : World) : (Instr.buildSlice 179 2 #[(0, .int .i64 u), (1, .int .i64 v)]).run Tryz.prog w = .ok (.slice (some ⟨w.heap.size, 0, none⟩) 2 2) (w.alloc (.cells #[.int .i64 u, .int .i64 v] 3)) := by
  go_simp
set_option maxHeartbeats 8000000 in
theorem less_any {w : World} {base g c : Nat} {R : List Run} (h : OwnF w base (.slice (some ⟨g, 0, none⟩) R.length c) R) {i j : Nat} (hi : i < R.length) (hj : j < R.length) (hl : R.length ≤ 1048576) :
    Calls Tryz.prog 180 #[.slice (some ⟨g, 0, none⟩) R.length c, .int .i64 (i : Int), .int .i64 (j : Int)] w fun e w' => e = .returned (.bool (ltF (rd R i) (rd R j))) ∧ Below w.heap.size w w' := by
  have HO : Hid _ := h
  have hgl : g < w.heap.size := (ownF_lt h g rfl).2
  obtain ⟨ci0, ci1⟩ := cellsF_get R i hi
  obtain ⟨cj0, cj1⟩ := cellsF_get R j hj
  have q0 := (World.ownsRow.cellAt h (i * 2) (by omega)).trans ci0
  have q1 := (World.ownsRow.cellAt h (i * 2 + 1) (by omega)).trans ci1
  have q2 := (World.ownsRow.cellAt h (j * 2) (by omega)).trans cj0
  have q3 := (World.ownsRow.cellAt h (j * 2 + 1) (by omega)).trans cj1
  have HC : Hid (∀ V, Below w.heap.size w V → V.cell? ⟨g, i * 2, none⟩ = some (.int .i64 ((rd R i).1 : Int)) ∧ V.cell? ⟨g, i * 2 + 1, none⟩ = some (.int .i64 ((rd R i).2 : Int)) ∧ V.cell? ⟨g, j * 2, none⟩ = some (.int .i64 ((rd R j).1 : Int)) ∧ V.cell? ⟨g, j * 2 + 1, none⟩ = some (.int .i64 ((rd R j).2 : Int))) := fun V hV => ⟨(hV.cell (p := ⟨g, i * 2, none⟩) hgl).trans q0, (hV.cell (p := ⟨g, i * 2 + 1, none⟩) hgl).trans q1, (hV.cell (p := ⟨g, j * 2, none⟩) hgl).trans q2, (hV.cell (p := ⟨g, j * 2 + 1, none⟩) hgl).trans q3⟩
  obtain ⟨x, hx⟩ : ∃ x, rd R i = x := ⟨_, rfl⟩
  obtain ⟨y, hy⟩ : ∃ y, rd R j = y := ⟨_, rfl⟩
  rw [hx, hy] at HC
  rw [hx, hy, ← less_is]
  have hil : (i : Int) < (R.length : Int) := by omega
  have hjl : (j : Int) < (R.length : Int) := by omega
  obtain ⟨n, hn⟩ : ∃ n, R.length = n := ⟨_, rfl⟩
  rw [hn] at hil hjl hi hj
  rw [hn]
  clear h q0 q1 q2 q3 ci0 ci1 cj0 cj1 hx hy HO hl
  go_enter Tryz.func180, Tryz.ntmps180
  go_upto_region 1 with fail
  generalize hA0 : (Act.mk _ []) = A0
  have e0 : A0.tmps.getD 0 undef = .slice (some ⟨g, 0, none⟩) n c := by rw [← hA0]; rfl
  have e1 : A0.tmps.getD 1 undef = .int .i64 (i : Int) := by rw [← hA0]; rfl
  have e2 : A0.tmps.getD 2 undef = .int .i64 (j : Int) := by rw [← hA0]; rfl
  have sz : A0.tmps.size = 32 := by rw [← hA0]; rfl
  refine wp_region_plain (by kernel_rfl) DLs (by simp) ?_ 25 rfl dLs dLs_inj (FLs g n c i j x y) FLs_st ?_ ?_ ?_
  · intro k o ho
    have hk : k < 26 := (Array.getElem?_eq_some_iff.1 ho).1
    rcases (show k = 0 ∨ k = 1 ∨ k = 2 ∨ k = 3 ∨ k = 4 ∨ k = 5 ∨ k = 6 ∨ k = 7 ∨ k = 8 ∨ k = 9 ∨ k = 10 ∨ k = 11 ∨ k = 12 ∨ k = 13 ∨ k = 14 ∨ k = 15 ∨ k = 16 ∨ k = 17 ∨ k = 18 ∨ k = 19 ∨ k = 20 ∨ k = 21 ∨ k = 22 ∨ k = 23 ∨ k = 24 ∨ k = 25 by omega) with rfl | rfl | rfl | rfl | rfl | rfl | rfl | rfl | rfl | rfl | rfl | rfl | rfl | rfl | rfl | rfl | rfl | rfl | rfl | rfl | rfl | rfl | rfl | rfl | rfl | rfl <;> (obtain rfl := Option.some.inj ho; simp)
  · intro o ho kk hkk
    obtain rfl := Option.some.inj ho
    rcases (show kk = 0 ∨ kk = 1 ∨ kk = 2 ∨ kk = 3 ∨ kk = 4 ∨ kk = 5 ∨ kk = 6 ∨ kk = 7 ∨ kk = 8 ∨ kk = 9 ∨ kk = 10 ∨ kk = 11 ∨ kk = 12 ∨ kk = 13 ∨ kk = 14 ∨ kk = 15 ∨ kk = 16 ∨ kk = 17 ∨ kk = 18 ∨ kk = 19 ∨ kk = 20 ∨ kk = 21 ∨ kk = 22 ∨ kk = 23 ∨ kk = 24 by omega) with rfl | rfl | rfl | rfl | rfl | rfl | rfl | rfl | rfl | rfl | rfl | rfl | rfl | rfl | rfl | rfl | rfl | rfl | rfl | rfl | rfl | rfl | rfl | rfl | rfl <;> simp [Region.binds]
  · intro k o u W hk ho hB hF
    have ev : ∀ s, DLs s = true → s < 32 → (ovr DLs A0 u).tmps[s]?.getD undef = u s := fun s h1 h2 => (getD_at _ _).symm.trans (eval_in h1 (by omega))
    have o0 : (ovr DLs A0 u).tmps[0]?.getD undef = _ := (getD_at _ _).symm.trans ((eval_out (D := DLs) (a0 := A0) (u := u) (s := 0) rfl (by omega)).trans e0)
    have o1 : (ovr DLs A0 u).tmps[1]?.getD undef = _ := (getD_at _ _).symm.trans ((eval_out (D := DLs) (a0 := A0) (u := u) (s := 1) rfl (by omega)).trans e1)
    have o2 : (ovr DLs A0 u).tmps[2]?.getD undef = _ := (getD_at _ _).symm.trans ((eval_out (D := DLs) (a0 := A0) (u := u) (s := 2) rfl (by omega)).trans e2)
    obtain ⟨c0, c1, c2, c3⟩ := HC.out W hB
    rcases (show k = 0 ∨ k = 1 ∨ k = 2 ∨ k = 3 ∨ k = 4 ∨ k = 5 ∨ k = 6 ∨ k = 7 ∨ k = 8 ∨ k = 9 ∨ k = 10 ∨ k = 11 ∨ k = 12 ∨ k = 13 ∨ k = 14 ∨ k = 15 ∨ k = 16 ∨ k = 17 ∨ k = 18 ∨ k = 19 ∨ k = 20 ∨ k = 21 ∨ k = 22 ∨ k = 23 ∨ k = 24 by omega) with rfl | rfl | rfl | rfl | rfl | rfl | rfl | rfl | rfl | rfl | rfl | rfl | rfl | rfl | rfl | rfl | rfl | rfl | rfl | rfl | rfl | rfl | rfl | rfl | rfl
    all_goals obtain rfl := Option.some.inj ho
    · refine plainV (v := .slice (some ⟨g, 0, none⟩) n c) rfl rfl ?_ rfl
      simp only [execOp]
      go_simp
      try go_num
    · refine plainV (v := .int .i64 (i : Int)) rfl rfl ?_ rfl
      simp only [execOp]
      go_simp
      try go_num
    · have x0 := (ev 7 rfl (by decide)).trans (hF 0 (by decide) (by simp [Region.binds]))
      have x1 := (ev 8 rfl (by decide)).trans (hF 1 (by decide) (by simp [Region.binds]))
      refine plainV (v := .pointer (some ⟨g, i * 2, none⟩)) rfl rfl ?_ rfl
      simp only [execOp]
      go_simp
      try go_num
    · have x2 := (ev 9 rfl (by decide)).trans (hF 2 (by decide) (by simp [Region.binds]))
      refine plainV (v := .pointer (some ⟨g, i * 2 + 1, none⟩)) rfl rfl ?_ rfl
      simp only [execOp]
      go_simp
      try go_num
    · have x3 := (ev 10 rfl (by decide)).trans (hF 3 (by decide) (by simp [Region.binds]))
      refine plainV (v := .int .i64 (x.2 : Int)) rfl rfl ?_ rfl
      simp only [execOp]
      go_simp
      try go_num
    · refine plainV (v := .slice (some ⟨g, 0, none⟩) n c) rfl rfl ?_ rfl
      simp only [execOp]
      go_simp
      try go_num
    · refine plainV (v := .int .i64 (j : Int)) rfl rfl ?_ rfl
      simp only [execOp]
      go_simp
      try go_num
    · have x5 := (ev 12 rfl (by decide)).trans (hF 5 (by decide) (by simp [Region.binds]))
      have x6 := (ev 13 rfl (by decide)).trans (hF 6 (by decide) (by simp [Region.binds]))
      refine plainV (v := .pointer (some ⟨g, j * 2, none⟩)) rfl rfl ?_ rfl
      simp only [execOp]
      go_simp
      try go_num
    · have x7 := (ev 14 rfl (by decide)).trans (hF 7 (by decide) (by simp [Region.binds]))
      refine plainV (v := .pointer (some ⟨g, j * 2 + 1, none⟩)) rfl rfl ?_ rfl
      simp only [execOp]
      go_simp
      try go_num
    · have x8 := (ev 15 rfl (by decide)).trans (hF 8 (by decide) (by simp [Region.binds]))
      refine plainV (v := .int .i64 (y.2 : Int)) rfl rfl ?_ rfl
      simp only [execOp]
      go_simp
      try go_num
    · have x4 := (ev 11 rfl (by decide)).trans (hF 4 (by decide) (by simp [Region.binds]))
      have x9 := (ev 16 rfl (by decide)).trans (hF 9 (by decide) (by simp [Region.binds]))
      refine plainC (f := 135) (args := #[.int .i64 (x.2 : Int), .int .i64 (y.2 : Int)]) rfl rfl ?_ ((compareW_any _ _ W).mono ?_)
      · simp only [execOp]
        go_simp
      · rintro e w' ⟨rfl, rfl⟩
        exact ⟨_, rfl, Below.refl _ _, rfl⟩
    · refine plainV (v := .slice (some ⟨g, 0, none⟩) n c) rfl rfl ?_ rfl
      simp only [execOp]
      go_simp
      try go_num
    · refine plainV (v := .int .i64 (i : Int)) rfl rfl ?_ rfl
      simp only [execOp]
      go_simp
      try go_num
    · have x11 := (ev 18 rfl (by decide)).trans (hF 11 (by decide) (by simp [Region.binds]))
      have x12 := (ev 19 rfl (by decide)).trans (hF 12 (by decide) (by simp [Region.binds]))
      refine plainV (v := .pointer (some ⟨g, i * 2, none⟩)) rfl rfl ?_ rfl
      simp only [execOp]
      go_simp
      try go_num
    · have x13 := (ev 20 rfl (by decide)).trans (hF 13 (by decide) (by simp [Region.binds]))
      refine plainV (v := .pointer (some ⟨g, i * 2, none⟩)) rfl rfl ?_ rfl
      simp only [execOp]
      go_simp
      try go_num
    · have x14 := (ev 21 rfl (by decide)).trans (hF 14 (by decide) (by simp [Region.binds]))
      refine plainV (v := .int .i64 (x.1 : Int)) rfl rfl ?_ rfl
      simp only [execOp]
      go_simp
      try go_num
    · refine plainV (v := .slice (some ⟨g, 0, none⟩) n c) rfl rfl ?_ rfl
      simp only [execOp]
      go_simp
      try go_num
    · refine plainV (v := .int .i64 (j : Int)) rfl rfl ?_ rfl
      simp only [execOp]
      go_simp
      try go_num
    · have x16 := (ev 23 rfl (by decide)).trans (hF 16 (by decide) (by simp [Region.binds]))
      have x17 := (ev 24 rfl (by decide)).trans (hF 17 (by decide) (by simp [Region.binds]))
      refine plainV (v := .pointer (some ⟨g, j * 2, none⟩)) rfl rfl ?_ rfl
      simp only [execOp]
      go_simp
      try go_num
    · have x18 := (ev 25 rfl (by decide)).trans (hF 18 (by decide) (by simp [Region.binds]))
      refine plainV (v := .pointer (some ⟨g, j * 2, none⟩)) rfl rfl ?_ rfl
      simp only [execOp]
      go_simp
      try go_num
    · have x19 := (ev 26 rfl (by decide)).trans (hF 19 (by decide) (by simp [Region.binds]))
      refine plainV (v := .int .i64 (y.1 : Int)) rfl rfl ?_ rfl
      simp only [execOp]
      go_simp
      try go_num
    · have x15 := (ev 22 rfl (by decide)).trans (hF 15 (by decide) (by simp [Region.binds]))
      have x20 := (ev 27 rfl (by decide)).trans (hF 20 (by decide) (by simp [Region.binds]))
      refine plainC (f := 135) (args := #[.int .i64 (x.1 : Int), .int .i64 (y.1 : Int)]) rfl rfl ?_ ((compareW_any _ _ W).mono ?_)
      · simp only [execOp]
        go_simp
      · rintro e w' ⟨rfl, rfl⟩
        exact ⟨_, rfl, Below.refl _ _, rfl⟩
    · have x10 := (ev 17 rfl (by decide)).trans (hF 10 (by decide) (by simp [Region.binds]))
      have x21 := (ev 28 rfl (by decide)).trans (hF 21 (by decide) (by simp [Region.binds]))
      refine wp_value (w' := W.alloc (.cells #[.int .i64 (cmpW x.2 y.2), .int .i64 (cmpW x.1 y.1)] 3)) (v := .slice (some ⟨W.heap.size, 0, none⟩) 2 2) ?_ ⟨_, put_in rfl rfl u _, (Below.refl _ W).alloc (Nat.le_refl _) _, W.heap.size, rfl, heap_alloc_new W _⟩
      simp only [execOp]
      go_simp
    · obtain ⟨b, eu, hb⟩ := hF 22 (by decide) (by simp [Region.binds])
      have x22 := (ev 29 rfl (by decide)).trans eu
      refine plainC (f := 182) (args := #[.slice (some ⟨b, 0, none⟩) 2 2]) rfl rfl ?_ ((orW_any (cellW_of (cs := [.int .i64 (cmpW x.2 y.2), .int .i64 (cmpW x.1 y.1)]) hb rfl) (cellW_of (cs := [.int .i64 (cmpW x.2 y.2), .int .i64 (cmpW x.1 y.1)]) hb rfl)).mono ?_)
      · simp only [execOp]
        go_simp
      · rintro e w' ⟨rfl, rfl⟩
        exact ⟨_, rfl, Below.refl _ _, rfl⟩
    · have x23 := (ev 30 rfl (by decide)).trans (hF 23 (by decide) (by simp [Region.binds]))
      refine plainV (v := .bool (decide (orW (cmpW x.2 y.2) (cmpW x.1 y.1) < 0))) rfl rfl ?_ rfl
      simp only [execOp]
      go_simp
      try go_num
  · intro o u W ho hB hF
    obtain rfl := Option.some.inj ho
    have ev : ∀ s, DLs s = true → s < 32 → (ovr DLs A0 u).tmps[s]?.getD undef = u s := fun s h1 h2 => (getD_at _ _).symm.trans (eval_in h1 (by omega))
    have x24 := (ev 31 rfl (by decide)).trans (hF 24 (by decide))
    have HBW : Hid _ := hB
    refine wp_value (w' := W) (v := .bool (decide (orW (cmpW x.2 y.2) (cmpW x.1 y.1) < 0))) ?_ ⟨_, put_in (d := 6) rfl rfl u _, ?_⟩
    · simp only [execOp]
      go_simp
    · subst hA0
      simp [ovr, upd, DLs, List.range, List.range.loop]
      go_wp2
      go_ret
      exact ⟨rfl, HBW.out⟩
theorem lenF_any (a : Option Addr) (n c : Nat) (w : World) (hn : n ≤ 1048576) : Calls Tryz.prog 126 #[.slice a n c] w fun e w' => e = .returned (.int .i64 (n : Int)) ∧ w' = w := by
  go_enter Tryz.func126, Tryz.ntmps126
  go_wp2
  go_ret
  exact ⟨rfl, rfl⟩
end Go.Proofs.YthfhjgkpabkeaaaGreat.walks
