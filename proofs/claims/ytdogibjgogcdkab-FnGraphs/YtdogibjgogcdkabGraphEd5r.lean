/-
  Chapter 6: the drawn regions of GMade's change that make a head and an object, walked by facts.
  Made from the template GraphEd5r.
-/
import Derived.Test.YtdogibjgogcdkabGraphEd5
import Derived.Test.YtdogibjgogcdkabRegionPlain
import Derived.Test.YtdogibjgogcdkabHeadMem
namespace Go.Proofs.Ytdogibjgogcdkab.gr
open Go.RowKit rows heads region
set_option maxRecDepth 100000
set_option linter.unusedVariables false
set_option linter.unusedSimpArgs false

theorem rp_ldI (b k : Nat) (w : World) {x : Int} (h : w.cell? ⟨b, k, none⟩ = some (.int .i64 x)) : (Instr.loadAt 2 (.pointer (some ⟨b, k, none⟩))).run Try.prog w = .ok (.int .i64 x) w := by
  go_simp
theorem rp_fa (b k : Nat) (hk : k < 5) (w : World) : (Instr.fieldAt 55 (.pointer (some ⟨b, 0, none⟩)) k).run Try.prog w = .ok (.pointer (some ⟨b, k, none⟩)) w := by
  rcases (show k = 0 ∨ k = 1 ∨ k = 2 ∨ k = 3 ∨ k = 4 by omega) with rfl | rfl | rfl | rfl | rfl <;> go_simp
theorem rp_faH (b : Nat) (w : World) : (Instr.fieldAt 26 (.pointer (some ⟨b, 0, none⟩)) 3).run Try.prog w = .ok (.pointer (some ⟨b, 3, none⟩)) w := by
  go_simp
theorem rp_mkH (s f c d : Int) (w : World) : (Instr.build 26 #[(0, .int .i64 s), (1, .int .i64 f), (2, .int .i64 c), (3, .int .i64 d)]).run Try.prog w = .ok (hv s f c d false false) w := by
  go_simp
theorem rp_alH (w : World) : (Instr.alloc 26 true (.tuple #[])).run Try.prog w = .ok (.pointer (some ⟨w.heap.size, 0, none⟩)) (w.alloc (hb 0 0 0 0 false false)) := by
  go_simp
theorem rp_stH {w : World} {b : Nat} {s f c d : Int} (h : HeadAt w b 0 0 0 0 false false) : (Instr.storeAt 26 (.pointer (some ⟨b, 0, none⟩)) (hv s f c d false false)).run Try.prog w = .ok () ((((((w.setCell ⟨b, 0, none⟩ (.int .i64 s)).setCell ⟨b, 1, none⟩ (.int .i64 f)).setCell ⟨b, 2, none⟩ (.int .i64 c)).setCell ⟨b, 3, none⟩ (.int .i64 d)).setCell ⟨b, 4, none⟩ (.bool false)).setCell ⟨b, 5, none⟩ (.bool false)) := by
  obtain ⟨z0, z1, z2, z3, z4, z5, zf⟩ := headAt_cells h
  have f0 := zf 0
  have f1 := zf 1
  have f2 := zf 2
  have f3 := zf 3
  have f4 := zf 4
  have f5 := zf 5
  clear h zf
  go_simp
theorem rp_mkO (i c f d : Int) (a : Option Addr) (n k : Nat) (w : World) : (Instr.build 72 #[(0, .int .i64 i), (1, .int .i64 c), (2, .int .i64 f), (3, .int .i64 d), (4, .slice a n k)]).run Try.prog w = .ok (.agg #[.int .i64 i, .int .i64 c, .int .i64 f, .int .i64 d, .slice a n k]) w := by
  go_simp
theorem rp_alO (w : World) : (Instr.alloc 72 true (.tuple #[])).run Try.prog w = .ok (.pointer (some ⟨w.heap.size, 0, none⟩)) (w.alloc (.cells #[.int .i64 0, .int .i64 0, .int .i64 0, .int .i64 0, .slice none 0 0] 72)) := by
  go_simp
theorem rp_stO {w : World} {b : Nat} {c0 c1 c2 c3 c4 : Value} (h : Five w b 72 c0 c1 c2 c3 c4) (i c f d : Int) (a : Option Addr) (n k : Nat) : (Instr.storeAt 72 (.pointer (some ⟨b, 0, none⟩)) (.agg #[.int .i64 i, .int .i64 c, .int .i64 f, .int .i64 d, .slice a n k])).run Try.prog w = .ok () (((((w.setCell ⟨b, 0, none⟩ (.int .i64 i)).setCell ⟨b, 1, none⟩ (.int .i64 c)).setCell ⟨b, 2, none⟩ (.int .i64 f)).setCell ⟨b, 3, none⟩ (.int .i64 d)).setCell ⟨b, 4, none⟩ (.slice a n k)) := by
  obtain ⟨z0, z1, z2, z3, z4, zf⟩ := five_cells h
  have f0 := zf 0
  have f1 := zf 1
  have f2 := zf 2
  have f3 := zf 3
  have f4 := zf 4
  clear h zf
  go_simp
theorem headAt_below6 {w w' : World} {b : Nat} {s f c h : Int} {p m : Bool} (T : HeadAt w b s f c h p m) (hb : Below w.heap.size w w') : HeadAt w' b s f c h p m := (hb.block b (lt_of_block T)).trans T

def dstH (k : Nat) : Nat := if k = 9 then 7 else 9 + k
def DH (s : Nat) : Bool := s == 7 || (decide (9 ≤ s) && decide (s ≤ 17))
def FH (n0 P : Nat) (s f c sd d : Int) (k : Nat) (t : Value) (w : World) : Prop :=
  match k with
  | 0 => t = .int .i64 s
  | 1 => t = .int .i64 f
  | 2 => t = .int .i64 c
  | 3 => t = .pointer (some ⟨P, 0, none⟩)
  | 4 => t = .pointer (some ⟨P, 0, none⟩)
  | 5 => t = .pointer (some ⟨P, 4, none⟩)
  | 6 => t = .int .i64 sd
  | 7 => t = .int .i64 d
  | 8 => t = hv s f c d false false
  | 9 => ∃ B, t = .pointer (some ⟨B, 0, none⟩) ∧ n0 ≤ B ∧ HeadAt w B 0 0 0 0 false false
  | _ => False
theorem FH_st {n0 P : Nat} {s f c sd d : Int} (k : Nat) (t : Value) (W W' : World) (hb : Below W.heap.size W W') (h : FH n0 P s f c sd d k t W) : FH n0 P s f c sd d k t W' := by
  match k, h with
  | 0, h => exact h
  | 1, h => exact h
  | 2, h => exact h
  | 3, h => exact h
  | 4, h => exact h
  | 5, h => exact h
  | 6, h => exact h
  | 7, h => exact h
  | 8, h => exact h
  | 9, ⟨B, h1, h2, h3⟩ => exact ⟨B, h1, h2, headAt_below6 h3 hb⟩
  | _ + 10, h => exact h.elim

set_option maxHeartbeats 4000000 in
theorem regH {id : Nat} {ops : Array Oper} {a0 : Act} {Q : Exit → Act → World → Prop} {w : World} {P b1 b2 b3 : Nat} {s f c sd d : Int} (hg : ∀ o ∈ ops, o.guard = none) (hacyc : ∀ (k : Nat) (o : Oper), ops[k]? = some o → ∀ e ∈ o.after, e.on < k) (hn : ops.size = 11)
    (h0 : Has ops 0 (some 9) (.load 2 (.tmp 1)) [])
    (h1 : Has ops 1 (some 10) (.load 2 (.tmp 2)) [])
    (h2 : Has ops 2 (some 11) (.load 2 (.tmp 3)) [])
    (h3 : Has ops 3 (some 12) (.move (.tmp 0)) [])
    (h4 : Has ops 4 (some 13) (.nilCheck (.tmp 12)) [3])
    (h5 : Has ops 5 (some 14) (.fieldAddr 55 (.tmp 13) 4) [4])
    (h6 : Has ops 6 (some 15) (.load 2 (.tmp 14)) [5])
    (h7 : Has ops 7 (some 16) (.call { callee := .value (.func 28), args := #[.tmp 15], argTypes := #[2] }) [6])
    (h8 : Has ops 8 (some 17) (.build 26 #[(0, .tmp 9), (1, .tmp 10), (2, .tmp 11), (3, .tmp 16)]) [0, 1, 2, 7])
    (h9 : Has ops 9 (some 7) (.alloc 26) [])
    (h10 : Has ops 10 none (.store 26 (.tmp 7) (.tmp 17)) [0, 1, 2, 3, 4, 5, 6, 7, 8, 9])
    (sz : 17 < a0.tmps.size) (e0 : a0.tmps.getD 0 undef = .pointer (some ⟨P, 0, none⟩)) (e1 : a0.tmps.getD 1 undef = .pointer (some ⟨b1, 0, none⟩)) (e2 : a0.tmps.getD 2 undef = .pointer (some ⟨b2, 0, none⟩)) (e3 : a0.tmps.getD 3 undef = .pointer (some ⟨b3, 0, none⟩))
    (n1 : w.cell? ⟨b1, 0, none⟩ = some (.int .i64 s)) (n2 : w.cell? ⟨b2, 0, none⟩ = some (.int .i64 f)) (n3 : w.cell? ⟨b3, 0, none⟩ = some (.int .i64 c)) (n4 : w.cell? ⟨P, 4, none⟩ = some (.int .i64 sd))
    (DR : ∀ W, Calls Try.prog 28 #[.int .i64 sd] W fun e w' => e = .returned (.int .i64 d) ∧ w' = W)
    (fin : ∀ u w' B, u 7 = .pointer (some ⟨B, 0, none⟩) → HeadAt w' B s f c d false false → Below w.heap.size w w' → Q .normal (ovr DH a0 u) w') :
    (Code.region id ops true).wp Try.prog Q a0 w := by
  refine wp_region_plain (by kernel_rfl) DH hg hacyc 10 hn dstH (fun k hk j hj e => by unfold dstH at e; split at e <;> split at e <;> omega) (FH w.heap.size P s f c sd d) FH_st ?_ ?_ ?_
  · intro o ho j hj
    obtain ⟨_, _, dep⟩ := has_plain h10 ho
    exact dep j (by rcases (show j = 0 ∨ j = 1 ∨ j = 2 ∨ j = 3 ∨ j = 4 ∨ j = 5 ∨ j = 6 ∨ j = 7 ∨ j = 8 ∨ j = 9 by omega) with rfl | rfl | rfl | rfl | rfl | rfl | rfl | rfl | rfl | rfl <;> decide)
  · intro k o u W hk ho hB hF
    have ev : ∀ s, DH s = true → s < 18 → (ovr DH a0 u).eval (.tmp s) = u s := fun s h1 h2 => eval_in h1 (by omega)
    have x0 := (eval_out (D := DH) (a0 := a0) (u := u) (s := 0) rfl (by omega)).trans e0
    have x1 := (eval_out (D := DH) (a0 := a0) (u := u) (s := 1) rfl (by omega)).trans e1
    have x2 := (eval_out (D := DH) (a0 := a0) (u := u) (s := 2) rfl (by omega)).trans e2
    have x3 := (eval_out (D := DH) (a0 := a0) (u := u) (s := 3) rfl (by omega)).trans e3
    have m1 := (hB.cell (p := ⟨b1, 0, none⟩) (cell_lt n1)).trans n1
    have m2 := (hB.cell (p := ⟨b2, 0, none⟩) (cell_lt n2)).trans n2
    have m3 := (hB.cell (p := ⟨b3, 0, none⟩) (cell_lt n3)).trans n3
    have m4 := (hB.cell (p := ⟨P, 4, none⟩) (cell_lt n4)).trans n4
    rcases (show k = 0 ∨ k = 1 ∨ k = 2 ∨ k = 3 ∨ k = 4 ∨ k = 5 ∨ k = 6 ∨ k = 7 ∨ k = 8 ∨ k = 9 by omega) with rfl | rfl | rfl | rfl | rfl | rfl | rfl | rfl | rfl | rfl
    · obtain ⟨hd, op, dep⟩ := has_plain h0 ho
      exact wp_value (w' := W) (by simp [execOp, op, x1, rp_ldI b1 0 W m1, Result.andThen]) ⟨_, put_in hd rfl u _, Below.refl _ _, rfl⟩
    · obtain ⟨hd, op, dep⟩ := has_plain h1 ho
      exact wp_value (w' := W) (by simp [execOp, op, x2, rp_ldI b2 0 W m2, Result.andThen]) ⟨_, put_in hd rfl u _, Below.refl _ _, rfl⟩
    · obtain ⟨hd, op, dep⟩ := has_plain h2 ho
      exact wp_value (w' := W) (by simp [execOp, op, x3, rp_ldI b3 0 W m3, Result.andThen]) ⟨_, put_in hd rfl u _, Below.refl _ _, rfl⟩
    · obtain ⟨hd, op, dep⟩ := has_plain h3 ho
      exact wp_value (w' := W) (by simp [execOp, op, x0, Result.andThen]) ⟨_, put_in hd rfl u _, Below.refl _ _, rfl⟩
    · obtain ⟨hd, op, dep⟩ := has_plain h4 ho
      have y := (ev 12 rfl (by omega)).trans (hF 3 (by omega) (dep 3 (by simp)))
      exact wp_value (w' := W) (v := .pointer (some ⟨P, 0, none⟩)) (by simp [execOp, op, y]) ⟨_, put_in hd rfl u _, Below.refl _ _, rfl⟩
    · obtain ⟨hd, op, dep⟩ := has_plain h5 ho
      have y := (ev 13 rfl (by omega)).trans (hF 4 (by omega) (dep 4 (by simp)))
      exact wp_value (w' := W) (by simp [execOp, op, y, rp_fa P 4 (by omega), Result.andThen]) ⟨_, put_in hd rfl u _, Below.refl _ _, rfl⟩
    · obtain ⟨hd, op, dep⟩ := has_plain h6 ho
      have y := (ev 14 rfl (by omega)).trans (hF 5 (by omega) (dep 5 (by simp)))
      exact wp_value (w' := W) (by simp [execOp, op, y, rp_ldI P 4 W m4, Result.andThen]) ⟨_, put_in hd rfl u _, Below.refl _ _, rfl⟩
    · obtain ⟨hd, op, dep⟩ := has_plain h7 ho
      have y := (ev 15 rfl (by omega)).trans (hF 6 (by omega) (dep 6 (by simp)))
      refine wp_call (f := 28) (args := #[.int .i64 sd]) (by simp only [execOp, op]; go_simp; exact (getD_at _ _).symm.trans y) ?_
      refine (DR W).mono ?_
      rintro e w' ⟨rfl, rfl⟩
      exact ⟨_, rfl, _, put_in hd rfl u _, Below.refl _ _, rfl⟩
    · obtain ⟨hd, op, dep⟩ := has_plain h8 ho
      have y0 := (ev 9 rfl (by omega)).trans (hF 0 (by omega) (dep 0 (by simp)))
      have y1 := (ev 10 rfl (by omega)).trans (hF 1 (by omega) (dep 1 (by simp)))
      have y2 := (ev 11 rfl (by omega)).trans (hF 2 (by omega) (dep 2 (by simp)))
      have y3 := (ev 16 rfl (by omega)).trans (hF 7 (by omega) (dep 7 (by simp)))
      exact wp_value (w' := W) (by simp [execOp, op, y0, y1, y2, y3, rp_mkH s f c d W, Result.andThen]) ⟨_, put_in hd rfl u _, Below.refl _ _, rfl⟩
    · obtain ⟨hd, op, dep⟩ := has_plain h9 ho
      exact wp_value (by simp [execOp, op, rp_alH, Result.andThen]) ⟨_, put_in hd rfl u _, (Below.refl _ W).alloc (Nat.le_refl _) _, W.heap.size, rfl, hB.size, headAt_new W _ _ _ _ _ _⟩
  · intro o u W ho hB hF
    obtain ⟨hd, op, dep⟩ := has_plain h10 ho
    have ev : ∀ s, DH s = true → s < 18 → (ovr DH a0 u).eval (.tmp s) = u s := fun s h1 h2 => eval_in h1 (by omega)
    obtain ⟨B, y1, hBB, TB⟩ := hF 9 (by omega)
    have y2 := (ev 17 rfl (by omega)).trans (hF 8 (by omega))
    have y3 := (ev 7 rfl (by omega)).trans y1
    refine wp_skip' (w' := ((((((W.setCell ⟨B, 0, none⟩ (.int .i64 s)).setCell ⟨B, 1, none⟩ (.int .i64 f)).setCell ⟨B, 2, none⟩ (.int .i64 c)).setCell ⟨B, 3, none⟩ (.int .i64 d)).setCell ⟨B, 4, none⟩ (.bool false)).setCell ⟨B, 5, none⟩ (.bool false))) (by simp [execOp, op, y2, y3, rp_stH TB, Result.andThen]) ⟨u, put_no hd u _, fin u _ B y1 ?_ ?_⟩
    · exact headAt_set5 (headAt_set4 (headAt_set3 (headAt_set2 (headAt_set1 (headAt_set0 TB _) _) _) _) _) _
    · exact ((((((hB.setCell (p := ⟨B, 0, none⟩) hBB _).setCell (p := ⟨B, 1, none⟩) hBB _).setCell (p := ⟨B, 2, none⟩) hBB _).setCell (p := ⟨B, 3, none⟩) hBB _).setCell (p := ⟨B, 4, none⟩) hBB _).setCell (p := ⟨B, 5, none⟩) hBB _)

def dstO (k : Nat) : Nat := if k = 11 then 8 else 31 + k
def DO (s : Nat) : Bool := s == 8 || (decide (31 ≤ s) && decide (s ≤ 41))
def FO (n0 P bk : Nat) (next c f d : Int) (j : Nat) (k : Nat) (t : Value) (w : World) : Prop :=
  match k with
  | 0 => t = .pointer (some ⟨P, 0, none⟩)
  | 1 => t = .pointer (some ⟨P, 0, none⟩)
  | 2 => t = .pointer (some ⟨P, 3, none⟩)
  | 3 => t = .int .i64 next
  | 4 => t = .int .i64 c
  | 5 => t = .int .i64 f
  | 6 => t = .pointer (some ⟨bk, 3, none⟩)
  | 7 => t = .int .i64 d
  | 8 => t = .int .i64 (j : Int)
  | 9 => ∃ q, t = .slice (some ⟨q, 0, none⟩) j j ∧ n0 ≤ q ∧ OwnR w n0 (.slice (some ⟨q, 0, none⟩) j j) (List.replicate j refD)
  | 10 => ∃ q, t = .agg #[.int .i64 next, .int .i64 c, .int .i64 f, .int .i64 d, .slice (some ⟨q, 0, none⟩) j j] ∧ n0 ≤ q ∧ OwnR w n0 (.slice (some ⟨q, 0, none⟩) j j) (List.replicate j refD)
  | 11 => ∃ B, t = .pointer (some ⟨B, 0, none⟩) ∧ n0 ≤ B ∧ Five w B 72 (.int .i64 0) (.int .i64 0) (.int .i64 0) (.int .i64 0) (.slice none 0 0)
  | _ => False
theorem FO_st {n0 P bk : Nat} {next c f d : Int} {j : Nat} (k : Nat) (t : Value) (W W' : World) (hb : Below W.heap.size W W') (h : FO n0 P bk next c f d j k t W) : FO n0 P bk next c f d j k t W' := by
  match k, h with
  | 0, h => exact h
  | 1, h => exact h
  | 2, h => exact h
  | 3, h => exact h
  | 4, h => exact h
  | 5, h => exact h
  | 6, h => exact h
  | 7, h => exact h
  | 8, h => exact h
  | 9, ⟨q, h1, h2, h3⟩ => exact ⟨q, h1, h2, ownR_below h3 hb⟩
  | 10, ⟨q, h1, h2, h3⟩ => exact ⟨q, h1, h2, ownR_below h3 hb⟩
  | 11, ⟨B, h1, h2, h3⟩ => exact ⟨B, h1, h2, five_below h3 hb⟩
  | _ + 12, h => exact h.elim
theorem own_ne {w : World} {base q n c B : Nat} {es : List Rf} {c0 c1 c2 c3 c4 : Value} (h : OwnR w base (.slice (some ⟨q, 0, none⟩) n c) es) (T : Five w B 72 c0 c1 c2 c3 c4) : B ≠ q := by
  intro e
  subst e
  obtain ⟨_, ⟨h1, _⟩ | ⟨g', cap, cur, h1, hg, hh, _⟩⟩ := h
  · cases h1
  · injection h1 with e1 e2 e3
    injection e1 with e1
    injection e1 with e1
    subst e1
    unfold Five at T
    rw [hh] at T
    injection T with T
    injection T with _ T
    exact absurd T (by decide)

set_option maxHeartbeats 4000000 in
theorem regO {id : Nat} {ops : Array Oper} {a0 : Act} {Q : Exit → Act → World → Prop} {w : World} {P b1 b2 b3 bk j : Nat} {next f c d : Int} (hj : j ≤ 1048576) (hg : ∀ o ∈ ops, o.guard = none) (hacyc : ∀ (k : Nat) (o : Oper), ops[k]? = some o → ∀ e ∈ o.after, e.on < k) (hn : ops.size = 13)
    (h0 : Has ops 0 (some 31) (.move (.tmp 0)) [])
    (h1 : Has ops 1 (some 32) (.nilCheck (.tmp 31)) [0])
    (h2 : Has ops 2 (some 33) (.fieldAddr 55 (.tmp 32) 3) [1])
    (h3 : Has ops 3 (some 34) (.load 2 (.tmp 33)) [2])
    (h4 : Has ops 4 (some 35) (.load 2 (.tmp 3)) [])
    (h5 : Has ops 5 (some 36) (.load 2 (.tmp 2)) [])
    (h6 : Has ops 6 (some 37) (.fieldAddr 26 (.tmp 7) 3) [])
    (h7 : Has ops 7 (some 38) (.load 2 (.tmp 37)) [6])
    (h8 : Has ops 8 (some 39) (.load 2 (.tmp 1)) [])
    (h9 : Has ops 9 (some 40) (.makeSlice 53 (.tmp 39) (.tmp 39)) [8])
    (h10 : Has ops 10 (some 41) (.build 72 #[(0, .tmp 34), (1, .tmp 35), (2, .tmp 36), (3, .tmp 38), (4, .tmp 40)]) [3, 4, 5, 7, 9])
    (h11 : Has ops 11 (some 8) (.alloc 72) [])
    (h12 : Has ops 12 none (.store 72 (.tmp 8) (.tmp 41)) [0, 1, 2, 3, 4, 5, 6, 7, 8, 9, 10, 11])
    (sz : 41 < a0.tmps.size) (e0 : a0.tmps.getD 0 undef = .pointer (some ⟨P, 0, none⟩)) (e1 : a0.tmps.getD 1 undef = .pointer (some ⟨b1, 0, none⟩)) (e2 : a0.tmps.getD 2 undef = .pointer (some ⟨b2, 0, none⟩)) (e3 : a0.tmps.getD 3 undef = .pointer (some ⟨b3, 0, none⟩)) (e7 : a0.tmps.getD 7 undef = .pointer (some ⟨bk, 0, none⟩))
    (n1 : w.cell? ⟨b1, 0, none⟩ = some (.int .i64 (j : Int))) (n2 : w.cell? ⟨b2, 0, none⟩ = some (.int .i64 f)) (n3 : w.cell? ⟨b3, 0, none⟩ = some (.int .i64 c)) (n4 : w.cell? ⟨P, 3, none⟩ = some (.int .i64 next)) (n5 : w.cell? ⟨bk, 3, none⟩ = some (.int .i64 d))
    (fin : ∀ u w' B q, u 8 = .pointer (some ⟨B, 0, none⟩) → w.heap.size ≤ B → w.heap.size ≤ q → B ≠ q → Five w' B 72 (.int .i64 next) (.int .i64 c) (.int .i64 f) (.int .i64 d) (.slice (some ⟨q, 0, none⟩) j j) → OwnR w' w.heap.size (.slice (some ⟨q, 0, none⟩) j j) (List.replicate j refD) → Below w.heap.size w w' → Q .normal (ovr DO a0 u) w') :
    (Code.region id ops true).wp Try.prog Q a0 w := by
  refine wp_region_plain (by kernel_rfl) DO hg hacyc 12 hn dstO (fun k hk j hj e => by unfold dstO at e; split at e <;> split at e <;> omega) (FO w.heap.size P bk next c f d j) FO_st ?_ ?_ ?_
  · intro o ho j hj
    obtain ⟨_, _, dep⟩ := has_plain h12 ho
    exact dep j (by rcases (show j = 0 ∨ j = 1 ∨ j = 2 ∨ j = 3 ∨ j = 4 ∨ j = 5 ∨ j = 6 ∨ j = 7 ∨ j = 8 ∨ j = 9 ∨ j = 10 ∨ j = 11 by omega) with rfl | rfl | rfl | rfl | rfl | rfl | rfl | rfl | rfl | rfl | rfl | rfl <;> decide)
  · intro k o u W hk ho hB hF
    have ev : ∀ s, DO s = true → s < 42 → (ovr DO a0 u).eval (.tmp s) = u s := fun s h1 h2 => eval_in h1 (by omega)
    have x0 := (eval_out (D := DO) (a0 := a0) (u := u) (s := 0) rfl (by omega)).trans e0
    have x1 := (eval_out (D := DO) (a0 := a0) (u := u) (s := 1) rfl (by omega)).trans e1
    have x2 := (eval_out (D := DO) (a0 := a0) (u := u) (s := 2) rfl (by omega)).trans e2
    have x3 := (eval_out (D := DO) (a0 := a0) (u := u) (s := 3) rfl (by omega)).trans e3
    have x7 := (eval_out (D := DO) (a0 := a0) (u := u) (s := 7) rfl (by omega)).trans e7
    have m1 := (hB.cell (p := ⟨b1, 0, none⟩) (cell_lt n1)).trans n1
    have m2 := (hB.cell (p := ⟨b2, 0, none⟩) (cell_lt n2)).trans n2
    have m3 := (hB.cell (p := ⟨b3, 0, none⟩) (cell_lt n3)).trans n3
    have m4 := (hB.cell (p := ⟨P, 3, none⟩) (cell_lt n4)).trans n4
    have m5 := (hB.cell (p := ⟨bk, 3, none⟩) (cell_lt n5)).trans n5
    rcases (show k = 0 ∨ k = 1 ∨ k = 2 ∨ k = 3 ∨ k = 4 ∨ k = 5 ∨ k = 6 ∨ k = 7 ∨ k = 8 ∨ k = 9 ∨ k = 10 ∨ k = 11 by omega) with rfl | rfl | rfl | rfl | rfl | rfl | rfl | rfl | rfl | rfl | rfl | rfl
    · obtain ⟨hd, op, dep⟩ := has_plain h0 ho
      exact wp_value (w' := W) (by simp [execOp, op, x0, Result.andThen]) ⟨_, put_in hd rfl u _, Below.refl _ _, rfl⟩
    · obtain ⟨hd, op, dep⟩ := has_plain h1 ho
      have y := (ev 31 rfl (by omega)).trans (hF 0 (by omega) (dep 0 (by simp)))
      exact wp_value (w' := W) (v := .pointer (some ⟨P, 0, none⟩)) (by simp [execOp, op, y]) ⟨_, put_in hd rfl u _, Below.refl _ _, rfl⟩
    · obtain ⟨hd, op, dep⟩ := has_plain h2 ho
      have y := (ev 32 rfl (by omega)).trans (hF 1 (by omega) (dep 1 (by simp)))
      exact wp_value (w' := W) (by simp [execOp, op, y, rp_fa P 3 (by omega), Result.andThen]) ⟨_, put_in hd rfl u _, Below.refl _ _, rfl⟩
    · obtain ⟨hd, op, dep⟩ := has_plain h3 ho
      have y := (ev 33 rfl (by omega)).trans (hF 2 (by omega) (dep 2 (by simp)))
      exact wp_value (w' := W) (by simp [execOp, op, y, rp_ldI P 3 W m4, Result.andThen]) ⟨_, put_in hd rfl u _, Below.refl _ _, rfl⟩
    · obtain ⟨hd, op, dep⟩ := has_plain h4 ho
      exact wp_value (w' := W) (by simp [execOp, op, x3, rp_ldI b3 0 W m3, Result.andThen]) ⟨_, put_in hd rfl u _, Below.refl _ _, rfl⟩
    · obtain ⟨hd, op, dep⟩ := has_plain h5 ho
      exact wp_value (w' := W) (by simp [execOp, op, x2, rp_ldI b2 0 W m2, Result.andThen]) ⟨_, put_in hd rfl u _, Below.refl _ _, rfl⟩
    · obtain ⟨hd, op, dep⟩ := has_plain h6 ho
      exact wp_value (w' := W) (by simp [execOp, op, x7, rp_faH bk, Result.andThen]) ⟨_, put_in hd rfl u _, Below.refl _ _, rfl⟩
    · obtain ⟨hd, op, dep⟩ := has_plain h7 ho
      have y := (ev 37 rfl (by omega)).trans (hF 6 (by omega) (dep 6 (by simp)))
      exact wp_value (w' := W) (by simp [execOp, op, y, rp_ldI bk 3 W m5, Result.andThen]) ⟨_, put_in hd rfl u _, Below.refl _ _, rfl⟩
    · obtain ⟨hd, op, dep⟩ := has_plain h8 ho
      exact wp_value (w' := W) (by simp [execOp, op, x1, rp_ldI b1 0 W m1, Result.andThen]) ⟨_, put_in hd rfl u _, Below.refl _ _, rfl⟩
    · obtain ⟨hd, op, dep⟩ := has_plain h9 ho
      have y := (ev 39 rfl (by omega)).trans (hF 8 (by omega) (dep 8 (by simp)))
      exact wp_value (by simp [execOp, op, y, mkR_run j hj W, Result.andThen]) ⟨_, put_in hd rfl u _, (Below.refl _ W).alloc (Nat.le_refl _) _, W.heap.size, rfl, hB.size, mkR_own hB.size j hj⟩
    · obtain ⟨hd, op, dep⟩ := has_plain h10 ho
      have y0 := (ev 34 rfl (by omega)).trans (hF 3 (by omega) (dep 3 (by simp)))
      have y1 := (ev 35 rfl (by omega)).trans (hF 4 (by omega) (dep 4 (by simp)))
      have y2 := (ev 36 rfl (by omega)).trans (hF 5 (by omega) (dep 5 (by simp)))
      have y3 := (ev 38 rfl (by omega)).trans (hF 7 (by omega) (dep 7 (by simp)))
      obtain ⟨q, y4, hq, hO⟩ := hF 9 (by omega) (dep 9 (by simp))
      have y5 := (ev 40 rfl (by omega)).trans y4
      exact wp_value (w' := W) (by simp [execOp, op, y0, y1, y2, y3, y5, rp_mkO next c f d (some ⟨q, 0, none⟩) j j W, Result.andThen]) ⟨_, put_in hd rfl u _, Below.refl _ _, q, rfl, hq, hO⟩
    · obtain ⟨hd, op, dep⟩ := has_plain h11 ho
      exact wp_value (by simp [execOp, op, rp_alO, Result.andThen]) ⟨_, put_in hd rfl u _, (Below.refl _ W).alloc (Nat.le_refl _) _, W.heap.size, rfl, hB.size, five_new W _ _ _ _ _ _⟩
  · intro o u W ho hB hF
    obtain ⟨hd, op, dep⟩ := has_plain h12 ho
    have ev : ∀ s, DO s = true → s < 42 → (ovr DO a0 u).eval (.tmp s) = u s := fun s h1 h2 => eval_in h1 (by omega)
    obtain ⟨B, y1, hBB, TB⟩ := hF 11 (by omega)
    obtain ⟨q, y4, hq, hO⟩ := hF 10 (by omega)
    have y2 := (ev 41 rfl (by omega)).trans y4
    have y3 := (ev 8 rfl (by omega)).trans y1
    have hne := own_ne hO TB
    refine wp_skip' (w' := (((((W.setCell ⟨B, 0, none⟩ (.int .i64 next)).setCell ⟨B, 1, none⟩ (.int .i64 c)).setCell ⟨B, 2, none⟩ (.int .i64 f)).setCell ⟨B, 3, none⟩ (.int .i64 d)).setCell ⟨B, 4, none⟩ (.slice (some ⟨q, 0, none⟩) j j))) (by simp [execOp, op, y2, y3, rp_stO TB next c f d (some ⟨q, 0, none⟩) j j, Result.andThen]) ⟨u, put_no hd u _, fin u _ B q y1 hBB hq hne (five_sets TB _ _ _ _ _) (row_ch hO (five_other _ _ _ _ _) (fun k hk e => ?_)) (five_belows hB hBB _ _ _ _ _)⟩
    rw [blk_some, List.mem_singleton] at hk
    rw [List.mem_singleton] at e
    exact hne (e.symm.trans hk)
end Go.Proofs.Ytdogibjgogcdkab.gr
