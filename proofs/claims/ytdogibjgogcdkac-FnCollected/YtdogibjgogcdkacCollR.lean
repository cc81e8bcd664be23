/-
  The law FnCollected: the region that asks whether what is collected is right, by facts.
  Made from the template CollR.
-/
import Derived.Test.YtdogibjgogcdkacM13
import Derived.Test.YtdogibjgogcdkacM6
import Derived.Test.YtdogibjgogcdkacM12
import Derived.Test.YtdogibjgogcdkacM10
import Derived.Test.YtdogibjgogcdkacM14
namespace Go.Proofs.Ytdogibjgogcdkac.gr
open Go.RowKit rows heads region
set_option maxRecDepth 100000
set_option linter.unusedVariables false
set_option linter.unusedSimpArgs false

/-- The operation k of a region: its slot, what it is, its guard, what it waits for. -/
def HasD (ops : Array Oper) (k : Nat) (d : Nat) (op : Op) (g : Option (Nat × Bool)) (deps : List Nat) : Prop := ∃ o, ops[k]? = some o ∧ o.dst = some d ∧ o.op = op ∧ o.guard = g ∧ ∀ j ∈ deps, ∃ e ∈ o.after, e.on = j ∧ Region.binds .any e = true
theorem hasD_at {ops : Array Oper} {k d : Nat} {op : Op} {g : Option (Nat × Bool)} {deps : List Nat} (h : HasD ops k d op g deps) {o : Oper} (ho : ops[k]? = some o) : o.dst = some d ∧ o.op = op ∧ o.guard = g ∧ ∀ j ∈ deps, ∃ e ∈ o.after, e.on = j ∧ Region.binds .any e = true := by
  obtain ⟨o', ho', h1, h2, h3, h4⟩ := h
  rw [ho] at ho'
  injection ho' with ho'
  subst ho'
  exact ⟨h1, h2, h3, h4⟩
theorem hasD_ex {ops : Array Oper} {k d : Nat} {op : Op} {g : Option (Nat × Bool)} {deps : List Nat} (h : HasD ops k d op g deps) : ∃ o, ops[k]? = some o ∧ o.dst = some d := by
  obtain ⟨o, h0, h1, _⟩ := h
  exact ⟨o, h0, h1⟩
theorem rg_ld {W : World} {P : Nat} {a1 a2 a3 : Option Addr} {n1 n2 n3 c1 c2 c3 : Nat} {x y : Int} (h : Five W P 27 (.slice a1 n1 c1) (.slice a2 n2 c2) (.slice a3 n3 c3) (.int .i64 x) (.int .i64 y)) : (Instr.loadAt 27 (.pointer (some ⟨P, 0, none⟩))).run Try.prog W = .ok (gv (.slice a1 n1 c1) (.slice a2 n2 c2) (.slice a3 n3 c3) x y) W := by
  obtain ⟨k0, k1, k2, k3, k4, _⟩ := five_cells h
  clear h
  go_simp
theorem rg_fa (P : Nat) (W : World) : (Instr.fieldAt 27 (.pointer (some ⟨P, 0, none⟩)) 0).run Try.prog W = .ok (.pointer (some ⟨P, 0, none⟩)) W := by go_simp
theorem rg_lo {W : World} {P : Nat} {a : Option Addr} {m c : Nat} (h : W.cell? ⟨P, 0, none⟩ = some (.slice a m c)) : (Instr.loadAt 24 (.pointer (some ⟨P, 0, none⟩))).run Try.prog W = .ok (.slice a m c) W := by go_simp
def dstC10 (k : Nat) : Nat := 38 + k
def DC10 (s : Nat) : Bool := decide (38 ≤ s) && decide (s ≤ 68)
def FC10 (Pc : Nat) (a1 a2 a3 d1 d2 d3 : Option Addr) (n1 n2 n3 f1 f2 f3 c1 c2 c3 g1 g2 g3 : Nat) (R X : Gr) (ys : List Int) (k : Nat) (t : Value) (W : World) : Prop :=
  match k with
  | 0 => t = gv (.slice a1 n1 c1) (.slice a2 n2 c2) (.slice a3 n3 c3) R.next R.seed
  | 1 => t = .bool true
  | 2 => t = .bool false
  | 3 => t = .bool false
  | 4 => t = gv (.slice d1 f1 g1) (.slice d2 f2 g2) (.slice d3 f3 g3) X.next X.seed
  | 5 => t = .bool true
  | 6 => t = .bool false
  | 7 => t = .bool false
  | 8 => t = .bool false
  | 9 => t = gv (.slice d1 f1 g1) (.slice d2 f2 g2) (.slice d3 f3 g3) X.next X.seed
  | 10 => ∃ a c, t = .slice a 0 c
  | 11 => t = .int .i64 0
  | 12 => t = .bool false
  | 13 => t = .bool false
  | 14 => t = .bool false
  | 15 => t = gv (.slice a1 n1 c1) (.slice a2 n2 c2) (.slice a3 n3 c3) R.next R.seed
  | 16 => ∃ a c, t = .slice a n1 c
  | 17 => t = .int .i64 (n1 : Int)
  | 18 => t = .pointer (some ⟨Pc, 0, none⟩)
  | 19 => t = .slice a1 n1 c1
  | 20 => t = .int .i64 (n1 : Int)
  | 21 => t = .bool false
  | 22 => t = .bool false
  | 23 => t = .bool false
  | 24 => t = gv (.slice a1 n1 c1) (.slice a2 n2 c2) (.slice a3 n3 c3) R.next R.seed
  | 25 => IntsAt W t ys
  | 26 => t = gv (.slice d1 f1 g1) (.slice d2 f2 g2) (.slice d3 f3 g3) X.next X.seed
  | 27 => IntsAt W t ys
  | 28 => t = .bool true
  | 29 => t = .bool false
  | 30 => t = .bool false
  | _ => False
theorem FC10_st {Pc : Nat} {a1 a2 a3 d1 d2 d3 : Option Addr} {n1 n2 n3 f1 f2 f3 c1 c2 c3 g1 g2 g3 : Nat} {R X : Gr} {ys : List Int} (k : Nat) (t : Value) (W W' : World) (hb : Below W.heap.size W W') (h : FC10 Pc a1 a2 a3 d1 d2 d3 n1 n2 n3 f1 f2 f3 c1 c2 c3 g1 g2 g3 R X ys k t W) : FC10 Pc a1 a2 a3 d1 d2 d3 n1 n2 n3 f1 f2 f3 c1 c2 c3 g1 g2 g3 R X ys k t W' := by
  match k, h with
  | 0, h => exact h
  | 1, h => exact h
  | 2, h => exact h
  | 3, h => exact h
  | 4, h => exact h
  | 5, h => exact h
  | 6, h => exact h
  | 7, h => exact h
  | 8, h => exact h
  | 9, h => exact h
  | 10, h => exact h
  | 11, h => exact h
  | 12, h => exact h
  | 13, h => exact h
  | 14, h => exact h
  | 15, h => exact h
  | 16, h => exact h
  | 17, h => exact h
  | 18, h => exact h
  | 19, h => exact h
  | 20, h => exact h
  | 21, h => exact h
  | 22, h => exact h
  | 23, h => exact h
  | 24, h => exact h
  | 25, h => exact intsAt_below h hb
  | 26, h => exact h
  | 27, h => exact intsAt_below h hb
  | 28, h => exact h
  | 29, h => exact h
  | 30, h => exact h
  | _ + 31, h => exact h.elim

set_option maxHeartbeats 8000000 in
theorem regC10 {id : Nat} {ops : Array Oper} {a0 : Act} {Q : Exit → Act → World → Prop} {w : World} {Pc Pm : Nat} {a1 a2 a3 d1 d2 d3 : Option Addr} {n1 n2 n3 f1 f2 f3 c1 c2 c3 g1 g2 g3 : Nat} {R X : Gr} {ms ns : List MO} {ys : List Int} (hacyc : ∀ (k : Nat) (o : Oper), ops[k]? = some o → ∀ e ∈ o.after, e.on < k) (hn : ops.size = 31)
    (h0 : HasD ops 0 38 (.load 27 (.tmp 4)) none [])
    (h1 : HasD ops 1 39 (.call { callee := .value (.func 13), args := #[.tmp 38], argTypes := #[27] }) none [0])
    (h2 : HasD ops 2 40 (.unOp .not 4 (.tmp 39)) none [1])
    (h3 : HasD ops 3 41 (.move (.tmp 40)) none [2])
    (h4 : HasD ops 4 42 (.load 27 (.tmp 5)) (some (3, false)) [3])
    (h5 : HasD ops 5 43 (.call { callee := .value (.func 13), args := #[.tmp 42], argTypes := #[27] }) (some (3, false)) [4, 3])
    (h6 : HasD ops 6 44 (.unOp .not 4 (.tmp 43)) (some (3, false)) [5, 3])
    (h7 : HasD ops 7 45 (.pick (.tmp 41) (.const (.bool true)) (.tmp 44)) none [3, 6])
    (h8 : HasD ops 8 46 (.move (.tmp 45)) none [7])
    (h9 : HasD ops 9 47 (.load 27 (.tmp 5)) (some (8, false)) [8])
    (h10 : HasD ops 10 48 (.call { callee := .value (.func 14), args := #[.tmp 47], argTypes := #[27] }) (some (8, false)) [9, 8])
    (h11 : HasD ops 11 49 (.call { callee := .builtin .len, args := #[.tmp 48], argTypes := #[32] }) (some (8, false)) [10, 8])
    (h12 : HasD ops 12 50 (.binOp .neq 3 (.tmp 49) (.const (.int .i64 0)) 3) (some (8, false)) [11, 8])
    (h13 : HasD ops 13 51 (.pick (.tmp 46) (.const (.bool true)) (.tmp 50)) none [8, 12])
    (h14 : HasD ops 14 52 (.move (.tmp 51)) none [13])
    (h15 : HasD ops 15 53 (.load 27 (.tmp 4)) (some (14, false)) [14])
    (h16 : HasD ops 16 54 (.call { callee := .value (.func 15), args := #[.tmp 53], argTypes := #[27] }) (some (14, false)) [15, 14])
    (h17 : HasD ops 17 55 (.call { callee := .builtin .len, args := #[.tmp 54], argTypes := #[32] }) (some (14, false)) [16, 14])
    (h18 : HasD ops 18 56 (.fieldAddr 27 (.tmp 4) 0) (some (14, false)) [14])
    (h19 : HasD ops 19 57 (.load 24 (.tmp 56)) (some (14, false)) [18, 14])
    (h20 : HasD ops 20 58 (.call { callee := .builtin .len, args := #[.tmp 57], argTypes := #[24] }) (some (14, false)) [19, 14])
    (h21 : HasD ops 21 59 (.binOp .neq 3 (.tmp 55) (.tmp 58) 3) (some (14, false)) [17, 20, 14])
    (h22 : HasD ops 22 60 (.pick (.tmp 52) (.const (.bool true)) (.tmp 59)) none [14, 21])
    (h23 : HasD ops 23 61 (.move (.tmp 60)) none [22])
    (h24 : HasD ops 24 62 (.load 27 (.tmp 4)) (some (23, false)) [23])
    (h25 : HasD ops 25 63 (.call { callee := .value (.func 15), args := #[.tmp 62], argTypes := #[27] }) (some (23, false)) [24, 23])
    (h26 : HasD ops 26 64 (.load 27 (.tmp 5)) (some (23, false)) [23])
    (h27 : HasD ops 27 65 (.call { callee := .value (.func 15), args := #[.tmp 64], argTypes := #[27] }) (some (23, false)) [26, 23])
    (h28 : HasD ops 28 66 (.call { callee := .value (.func 16), args := #[.tmp 63, .tmp 65], argTypes := #[32, 32] }) (some (23, false)) [25, 27, 23])
    (h29 : HasD ops 29 67 (.unOp .not 4 (.tmp 66)) (some (23, false)) [28, 23])
    (h30 : HasD ops 30 68 (.pick (.tmp 61) (.const (.bool true)) (.tmp 67)) none [23, 29])
    (sz : 68 < a0.tmps.size) (e4 : a0.tmps.getD 4 undef = .pointer (some ⟨Pc, 0, none⟩)) (e5 : a0.tmps.getD 5 undef = .pointer (some ⟨Pm, 0, none⟩))
    (TC : Five w Pc 27 (.slice a1 n1 c1) (.slice a2 n2 c2) (.slice a3 n3 c3) (.int .i64 R.next) (.int .i64 R.seed)) (TM : Five w Pm 27 (.slice d1 f1 g1) (.slice d2 f2 g2) (.slice d3 f3 g3) (.int .i64 X.next) (.int .i64 X.seed))
    (GC : GraphAt w (.slice a1 n1 c1) (.slice a2 n2 c2) (.slice a3 n3 c3) ms R) (GM : GraphAt w (.slice d1 f1 g1) (.slice d2 f2 g2) (.slice d3 f3 g3) ns X) (zC : gSize ms R ≤ 1048576) (zM : gSize ns X ≤ 1048576)
    (okC : gOk R = true) (okM : gOk X = true) (griM : IsGrieving X []) (reC : IsReached R ys) (reM : IsReached X ys) (hy : ys.length = n1) (hy2 : ys.length ≤ 1048576)
    (fin : ∀ u w', u 68 = .bool false → Below w.heap.size w w' → Q .normal (ovr DC10 a0 u) w') :
    (Code.region id ops true).wp Try.prog Q a0 w := by
  refine wp_region_guarded (by kernel_rfl) DC10 (fun W W' => Below W.heap.size W W') (fun a b c h k => h.trans (k.mono h.size)) (Below.refl _ w).drew hacyc 31 hn dstC10 (fun k hk j hj e => by unfold dstC10 at e; omega) (FC10 Pc a1 a2 a3 d1 d2 d3 n1 n2 n3 f1 f2 f3 c1 c2 c3 g1 g2 g3 R X ys) FC10_st ?_ (fun u W hB hF => fin u W (hF 30 (by omega)) hB)
  intro k o u W hk ho hB hF
  have ev : ∀ s, DC10 s = true → s < 69 → (ovr DC10 a0 u).eval (.tmp s) = u s := fun s h1 h2 => eval_in h1 (by omega)
  have x4 := (eval_out (D := DC10) (a0 := a0) (u := u) (s := 4) rfl (by omega)).trans e4
  have x5 := (eval_out (D := DC10) (a0 := a0) (u := u) (s := 5) rfl (by omega)).trans e5
  have TC' := five_below TC hB
  have TM' := five_below TM hB
  have GC' := graphAt_below GC hB
  have GM' := graphAt_below GM hB
  rcases (show k = 0 ∨ k = 1 ∨ k = 2 ∨ k = 3 ∨ k = 4 ∨ k = 5 ∨ k = 6 ∨ k = 7 ∨ k = 8 ∨ k = 9 ∨ k = 10 ∨ k = 11 ∨ k = 12 ∨ k = 13 ∨ k = 14 ∨ k = 15 ∨ k = 16 ∨ k = 17 ∨ k = 18 ∨ k = 19 ∨ k = 20 ∨ k = 21 ∨ k = 22 ∨ k = 23 ∨ k = 24 ∨ k = 25 ∨ k = 26 ∨ k = 27 ∨ k = 28 ∨ k = 29 ∨ k = 30 by omega) with rfl | rfl | rfl | rfl | rfl | rfl | rfl | rfl | rfl | rfl | rfl | rfl | rfl | rfl | rfl | rfl | rfl | rfl | rfl | rfl | rfl | rfl | rfl | rfl | rfl | rfl | rfl | rfl | rfl | rfl | rfl
  · obtain ⟨hd, op, hgd, dep⟩ := hasD_at h0 ho
    exact .inl ⟨wanted_none hgd, wp_value (v := gv (.slice a1 n1 c1) (.slice a2 n2 c2) (.slice a3 n3 c3) R.next R.seed) (w' := W) (by simp only [execOp, op, x4]; simp only [rg_ld TC', Result.andThen_ok, Sem.run_bind, Sem.run_pure]) ⟨_, put_in hd rfl u _, Below.refl _ _, rfl⟩⟩
  · obtain ⟨hd, op, hgd, dep⟩ := hasD_at h1 ho
    have y0 := (ev 38 rfl (by omega)).trans (hF 0 (by omega) (dep 0 (by simp)))
    exact .inl ⟨wanted_none hgd, wp_call (f := 13) (args := #[gv (.slice a1 n1 c1) (.slice a2 n2 c2) (.slice a3 n3 c3) R.next R.seed]) (by simp only [execOp, op]; go_simp; exact (getD_at _ _).symm.trans y0) ((implGraphOk GC' zC).mono (by rintro e w' ⟨rfl, hb⟩; rw [okC]; exact ⟨_, rfl, _, put_in hd rfl u _, hb, rfl⟩))⟩
  · obtain ⟨hd, op, hgd, dep⟩ := hasD_at h2 ho
    have y0 := (ev 39 rfl (by omega)).trans (hF 1 (by omega) (dep 1 (by simp)))
    exact .inl ⟨wanted_none hgd, wp_value (v := .bool false) (w' := W) (by simp only [execOp, op, y0]; simp [go_sem, Result.andThen]) ⟨_, put_in hd rfl u _, Below.refl _ _, rfl⟩⟩
  · obtain ⟨hd, op, hgd, dep⟩ := hasD_at h3 ho
    have y0 := (ev 40 rfl (by omega)).trans (hF 2 (by omega) (dep 2 (by simp)))
    exact .inl ⟨wanted_none hgd, wp_value (v := .bool false) (w' := W) (by simp only [execOp, op, y0]; simp [go_sem, Result.andThen]) ⟨_, put_in hd rfl u _, Below.refl _ _, rfl⟩⟩
  · obtain ⟨hd, op, hgd, dep⟩ := hasD_at h4 ho
    obtain ⟨og, hog, hdg⟩ := hasD_ex h3
    have hug : u 41 = .bool false := hF 3 (by omega) (dep 3 (by simp))
    exact .inl ⟨(wanted_some (D := DC10) (a0 := a0) hgd hog hdg rfl (by omega) hug).trans rfl, wp_value (v := gv (.slice d1 f1 g1) (.slice d2 f2 g2) (.slice d3 f3 g3) X.next X.seed) (w' := W) (by simp only [execOp, op, x5]; simp only [rg_ld TM', Result.andThen_ok, Sem.run_bind, Sem.run_pure]) ⟨_, put_in hd rfl u _, Below.refl _ _, rfl⟩⟩
  · obtain ⟨hd, op, hgd, dep⟩ := hasD_at h5 ho
    obtain ⟨og, hog, hdg⟩ := hasD_ex h3
    have hug : u 41 = .bool false := hF 3 (by omega) (dep 3 (by simp))
    have y0 := (ev 42 rfl (by omega)).trans (hF 4 (by omega) (dep 4 (by simp)))
    exact .inl ⟨(wanted_some (D := DC10) (a0 := a0) hgd hog hdg rfl (by omega) hug).trans rfl, wp_call (f := 13) (args := #[gv (.slice d1 f1 g1) (.slice d2 f2 g2) (.slice d3 f3 g3) X.next X.seed]) (by simp only [execOp, op]; go_simp; exact (getD_at _ _).symm.trans y0) ((implGraphOk GM' zM).mono (by rintro e w' ⟨rfl, hb⟩; rw [okM]; exact ⟨_, rfl, _, put_in hd rfl u _, hb, rfl⟩))⟩
  · obtain ⟨hd, op, hgd, dep⟩ := hasD_at h6 ho
    obtain ⟨og, hog, hdg⟩ := hasD_ex h3
    have hug : u 41 = .bool false := hF 3 (by omega) (dep 3 (by simp))
    have y0 := (ev 43 rfl (by omega)).trans (hF 5 (by omega) (dep 5 (by simp)))
    exact .inl ⟨(wanted_some (D := DC10) (a0 := a0) hgd hog hdg rfl (by omega) hug).trans rfl, wp_value (v := .bool false) (w' := W) (by simp only [execOp, op, y0]; simp [go_sem, Result.andThen]) ⟨_, put_in hd rfl u _, Below.refl _ _, rfl⟩⟩
  · obtain ⟨hd, op, hgd, dep⟩ := hasD_at h7 ho
    have y0 := (ev 41 rfl (by omega)).trans (hF 3 (by omega) (dep 3 (by simp)))
    have y1 := (ev 44 rfl (by omega)).trans (hF 6 (by omega) (dep 6 (by simp)))
    exact .inl ⟨wanted_none hgd, wp_value (v := .bool false) (w' := W) (by simp only [execOp, op, y0, y1]; simp [go_sem, Result.andThen]) ⟨_, put_in hd rfl u _, Below.refl _ _, rfl⟩⟩
  · obtain ⟨hd, op, hgd, dep⟩ := hasD_at h8 ho
    have y0 := (ev 45 rfl (by omega)).trans (hF 7 (by omega) (dep 7 (by simp)))
    exact .inl ⟨wanted_none hgd, wp_value (v := .bool false) (w' := W) (by simp only [execOp, op, y0]; simp [go_sem, Result.andThen]) ⟨_, put_in hd rfl u _, Below.refl _ _, rfl⟩⟩
  · obtain ⟨hd, op, hgd, dep⟩ := hasD_at h9 ho
    obtain ⟨og, hog, hdg⟩ := hasD_ex h8
    have hug : u 46 = .bool false := hF 8 (by omega) (dep 8 (by simp))
    exact .inl ⟨(wanted_some (D := DC10) (a0 := a0) hgd hog hdg rfl (by omega) hug).trans rfl, wp_value (v := gv (.slice d1 f1 g1) (.slice d2 f2 g2) (.slice d3 f3 g3) X.next X.seed) (w' := W) (by simp only [execOp, op, x5]; simp only [rg_ld TM', Result.andThen_ok, Sem.run_bind, Sem.run_pure]) ⟨_, put_in hd rfl u _, Below.refl _ _, rfl⟩⟩
  · obtain ⟨hd, op, hgd, dep⟩ := hasD_at h10 ho
    obtain ⟨og, hog, hdg⟩ := hasD_ex h8
    have hug : u 46 = .bool false := hF 8 (by omega) (dep 8 (by simp))
    have y0 := (ev 47 rfl (by omega)).trans (hF 9 (by omega) (dep 9 (by simp)))
    exact .inl ⟨(wanted_some (D := DC10) (a0 := a0) hgd hog hdg rfl (by omega) hug).trans rfl, wp_call (f := 14) (args := #[gv (.slice d1 f1 g1) (.slice d2 f2 g2) (.slice d3 f3 g3) X.next X.seed]) (by simp only [execOp, op]; go_simp; exact (getD_at _ _).symm.trans y0) ((implGrieving GM' zM griM).mono (by rintro e w' ⟨v, rfl, O, hb⟩; obtain ⟨a, c, rfl, _⟩ := own_ints O; exact ⟨_, rfl, _, put_in hd rfl u _, hb, a, c, rfl⟩))⟩
  · obtain ⟨hd, op, hgd, dep⟩ := hasD_at h11 ho
    obtain ⟨og, hog, hdg⟩ := hasD_ex h8
    have hug : u 46 = .bool false := hF 8 (by omega) (dep 8 (by simp))
    obtain ⟨a, c, y'⟩ := hF 10 (by omega) (dep 10 (by simp))
    have y0 := (ev 48 rfl (by omega)).trans y'
    have y1 := (getD_at _ _).symm.trans y0
    exact .inl ⟨(wanted_some (D := DC10) (a0 := a0) hgd hog hdg rfl (by omega) hug).trans rfl, wp_value (v := .int .i64 0) (w' := W) (by simp only [execOp, op]; simp [go_sem, Result.andThen, y1]) ⟨_, put_in hd rfl u _, Below.refl _ _, rfl⟩⟩
  · obtain ⟨hd, op, hgd, dep⟩ := hasD_at h12 ho
    obtain ⟨og, hog, hdg⟩ := hasD_ex h8
    have hug : u 46 = .bool false := hF 8 (by omega) (dep 8 (by simp))
    have y0 := (ev 49 rfl (by omega)).trans (hF 11 (by omega) (dep 11 (by simp)))
    exact .inl ⟨(wanted_some (D := DC10) (a0 := a0) hgd hog hdg rfl (by omega) hug).trans rfl, wp_value (v := .bool false) (w' := W) (by simp only [execOp, op, y0]; simp [go_sem, Result.andThen]) ⟨_, put_in hd rfl u _, Below.refl _ _, rfl⟩⟩
  · obtain ⟨hd, op, hgd, dep⟩ := hasD_at h13 ho
    have y0 := (ev 46 rfl (by omega)).trans (hF 8 (by omega) (dep 8 (by simp)))
    have y1 := (ev 50 rfl (by omega)).trans (hF 12 (by omega) (dep 12 (by simp)))
    exact .inl ⟨wanted_none hgd, wp_value (v := .bool false) (w' := W) (by simp only [execOp, op, y0, y1]; simp [go_sem, Result.andThen]) ⟨_, put_in hd rfl u _, Below.refl _ _, rfl⟩⟩
  · obtain ⟨hd, op, hgd, dep⟩ := hasD_at h14 ho
    have y0 := (ev 51 rfl (by omega)).trans (hF 13 (by omega) (dep 13 (by simp)))
    exact .inl ⟨wanted_none hgd, wp_value (v := .bool false) (w' := W) (by simp only [execOp, op, y0]; simp [go_sem, Result.andThen]) ⟨_, put_in hd rfl u _, Below.refl _ _, rfl⟩⟩
  · obtain ⟨hd, op, hgd, dep⟩ := hasD_at h15 ho
    obtain ⟨og, hog, hdg⟩ := hasD_ex h14
    have hug : u 52 = .bool false := hF 14 (by omega) (dep 14 (by simp))
    exact .inl ⟨(wanted_some (D := DC10) (a0 := a0) hgd hog hdg rfl (by omega) hug).trans rfl, wp_value (v := gv (.slice a1 n1 c1) (.slice a2 n2 c2) (.slice a3 n3 c3) R.next R.seed) (w' := W) (by simp only [execOp, op, x4]; simp only [rg_ld TC', Result.andThen_ok, Sem.run_bind, Sem.run_pure]) ⟨_, put_in hd rfl u _, Below.refl _ _, rfl⟩⟩
  · obtain ⟨hd, op, hgd, dep⟩ := hasD_at h16 ho
    obtain ⟨og, hog, hdg⟩ := hasD_ex h14
    have hug : u 52 = .bool false := hF 14 (by omega) (dep 14 (by simp))
    have y0 := (ev 53 rfl (by omega)).trans (hF 15 (by omega) (dep 15 (by simp)))
    exact .inl ⟨(wanted_some (D := DC10) (a0 := a0) hgd hog hdg rfl (by omega) hug).trans rfl, wp_call (f := 15) (args := #[gv (.slice a1 n1 c1) (.slice a2 n2 c2) (.slice a3 n3 c3) R.next R.seed]) (by simp only [execOp, op]; go_simp; exact (getD_at _ _).symm.trans y0) ((implReached GC' zC reC).mono (by rintro e w' ⟨v, rfl, O, hb⟩; obtain ⟨a, c, rfl, _⟩ := own_ints O; exact ⟨_, rfl, _, put_in hd rfl u _, hb, a, c, by rw [hy]⟩))⟩
  · obtain ⟨hd, op, hgd, dep⟩ := hasD_at h17 ho
    obtain ⟨og, hog, hdg⟩ := hasD_ex h14
    have hug : u 52 = .bool false := hF 14 (by omega) (dep 14 (by simp))
    obtain ⟨a, c, y'⟩ := hF 16 (by omega) (dep 16 (by simp))
    have y0 := (ev 54 rfl (by omega)).trans y'
    have y1 := (getD_at _ _).symm.trans y0
    exact .inl ⟨(wanted_some (D := DC10) (a0 := a0) hgd hog hdg rfl (by omega) hug).trans rfl, wp_value (v := .int .i64 (n1 : Int)) (w' := W) (by simp only [execOp, op]; simp [go_sem, Result.andThen, y1]) ⟨_, put_in hd rfl u _, Below.refl _ _, rfl⟩⟩
  · obtain ⟨hd, op, hgd, dep⟩ := hasD_at h18 ho
    obtain ⟨og, hog, hdg⟩ := hasD_ex h14
    have hug : u 52 = .bool false := hF 14 (by omega) (dep 14 (by simp))
    exact .inl ⟨(wanted_some (D := DC10) (a0 := a0) hgd hog hdg rfl (by omega) hug).trans rfl, wp_value (v := .pointer (some ⟨Pc, 0, none⟩)) (w' := W) (by simp only [execOp, op, x4]; simp [rg_fa, go_sem, Result.andThen]) ⟨_, put_in hd rfl u _, Below.refl _ _, rfl⟩⟩
  · obtain ⟨hd, op, hgd, dep⟩ := hasD_at h19 ho
    obtain ⟨og, hog, hdg⟩ := hasD_ex h14
    have hug : u 52 = .bool false := hF 14 (by omega) (dep 14 (by simp))
    have y0 := (ev 56 rfl (by omega)).trans (hF 18 (by omega) (dep 18 (by simp)))
    exact .inl ⟨(wanted_some (D := DC10) (a0 := a0) hgd hog hdg rfl (by omega) hug).trans rfl, wp_value (v := .slice a1 n1 c1) (w' := W) (by simp only [execOp, op, y0]; simp only [rg_lo (five_cells TC').1, Result.andThen_ok, Sem.run_bind, Sem.run_pure]) ⟨_, put_in hd rfl u _, Below.refl _ _, rfl⟩⟩
  · obtain ⟨hd, op, hgd, dep⟩ := hasD_at h20 ho
    obtain ⟨og, hog, hdg⟩ := hasD_ex h14
    have hug : u 52 = .bool false := hF 14 (by omega) (dep 14 (by simp))
    have y0 := (ev 57 rfl (by omega)).trans (hF 19 (by omega) (dep 19 (by simp)))
    have y1 := (getD_at _ _).symm.trans y0
    exact .inl ⟨(wanted_some (D := DC10) (a0 := a0) hgd hog hdg rfl (by omega) hug).trans rfl, wp_value (v := .int .i64 (n1 : Int)) (w' := W) (by simp only [execOp, op]; simp [go_sem, Result.andThen, y1]) ⟨_, put_in hd rfl u _, Below.refl _ _, rfl⟩⟩
  · obtain ⟨hd, op, hgd, dep⟩ := hasD_at h21 ho
    obtain ⟨og, hog, hdg⟩ := hasD_ex h14
    have hug : u 52 = .bool false := hF 14 (by omega) (dep 14 (by simp))
    have y0 := (ev 55 rfl (by omega)).trans (hF 17 (by omega) (dep 17 (by simp)))
    have y1 := (ev 58 rfl (by omega)).trans (hF 20 (by omega) (dep 20 (by simp)))
    exact .inl ⟨(wanted_some (D := DC10) (a0 := a0) hgd hog hdg rfl (by omega) hug).trans rfl, wp_value (v := .bool false) (w' := W) (by simp only [execOp, op, y0, y1]; simp [go_sem, Result.andThen]) ⟨_, put_in hd rfl u _, Below.refl _ _, rfl⟩⟩
  · obtain ⟨hd, op, hgd, dep⟩ := hasD_at h22 ho
    have y0 := (ev 52 rfl (by omega)).trans (hF 14 (by omega) (dep 14 (by simp)))
    have y1 := (ev 59 rfl (by omega)).trans (hF 21 (by omega) (dep 21 (by simp)))
    exact .inl ⟨wanted_none hgd, wp_value (v := .bool false) (w' := W) (by simp only [execOp, op, y0, y1]; simp [go_sem, Result.andThen]) ⟨_, put_in hd rfl u _, Below.refl _ _, rfl⟩⟩
  · obtain ⟨hd, op, hgd, dep⟩ := hasD_at h23 ho
    have y0 := (ev 60 rfl (by omega)).trans (hF 22 (by omega) (dep 22 (by simp)))
    exact .inl ⟨wanted_none hgd, wp_value (v := .bool false) (w' := W) (by simp only [execOp, op, y0]; simp [go_sem, Result.andThen]) ⟨_, put_in hd rfl u _, Below.refl _ _, rfl⟩⟩
  · obtain ⟨hd, op, hgd, dep⟩ := hasD_at h24 ho
    obtain ⟨og, hog, hdg⟩ := hasD_ex h23
    have hug : u 61 = .bool false := hF 23 (by omega) (dep 23 (by simp))
    exact .inl ⟨(wanted_some (D := DC10) (a0 := a0) hgd hog hdg rfl (by omega) hug).trans rfl, wp_value (v := gv (.slice a1 n1 c1) (.slice a2 n2 c2) (.slice a3 n3 c3) R.next R.seed) (w' := W) (by simp only [execOp, op, x4]; simp only [rg_ld TC', Result.andThen_ok, Sem.run_bind, Sem.run_pure]) ⟨_, put_in hd rfl u _, Below.refl _ _, rfl⟩⟩
  · obtain ⟨hd, op, hgd, dep⟩ := hasD_at h25 ho
    obtain ⟨og, hog, hdg⟩ := hasD_ex h23
    have hug : u 61 = .bool false := hF 23 (by omega) (dep 23 (by simp))
    have y0 := (ev 62 rfl (by omega)).trans (hF 24 (by omega) (dep 24 (by simp)))
    exact .inl ⟨(wanted_some (D := DC10) (a0 := a0) hgd hog hdg rfl (by omega) hug).trans rfl, wp_call (f := 15) (args := #[gv (.slice a1 n1 c1) (.slice a2 n2 c2) (.slice a3 n3 c3) R.next R.seed]) (by simp only [execOp, op]; go_simp; exact (getD_at _ _).symm.trans y0) ((implReached GC' zC reC).mono (by rintro e w' ⟨v, rfl, O, hb⟩; exact ⟨_, rfl, _, put_in hd rfl u _, hb, own_ints O⟩))⟩
  · obtain ⟨hd, op, hgd, dep⟩ := hasD_at h26 ho
    obtain ⟨og, hog, hdg⟩ := hasD_ex h23
    have hug : u 61 = .bool false := hF 23 (by omega) (dep 23 (by simp))
    exact .inl ⟨(wanted_some (D := DC10) (a0 := a0) hgd hog hdg rfl (by omega) hug).trans rfl, wp_value (v := gv (.slice d1 f1 g1) (.slice d2 f2 g2) (.slice d3 f3 g3) X.next X.seed) (w' := W) (by simp only [execOp, op, x5]; simp only [rg_ld TM', Result.andThen_ok, Sem.run_bind, Sem.run_pure]) ⟨_, put_in hd rfl u _, Below.refl _ _, rfl⟩⟩
  · obtain ⟨hd, op, hgd, dep⟩ := hasD_at h27 ho
    obtain ⟨og, hog, hdg⟩ := hasD_ex h23
    have hug : u 61 = .bool false := hF 23 (by omega) (dep 23 (by simp))
    have y0 := (ev 64 rfl (by omega)).trans (hF 26 (by omega) (dep 26 (by simp)))
    exact .inl ⟨(wanted_some (D := DC10) (a0 := a0) hgd hog hdg rfl (by omega) hug).trans rfl, wp_call (f := 15) (args := #[gv (.slice d1 f1 g1) (.slice d2 f2 g2) (.slice d3 f3 g3) X.next X.seed]) (by simp only [execOp, op]; go_simp; exact (getD_at _ _).symm.trans y0) ((implReached GM' zM reM).mono (by rintro e w' ⟨v, rfl, O, hb⟩; exact ⟨_, rfl, _, put_in hd rfl u _, hb, own_ints O⟩))⟩
  · obtain ⟨hd, op, hgd, dep⟩ := hasD_at h28 ho
    obtain ⟨og, hog, hdg⟩ := hasD_ex h23
    have hug : u 61 = .bool false := hF 23 (by omega) (dep 23 (by simp))
    have i0 : IntsAt W (u 63) ys := hF 25 (by omega) (dep 25 (by simp))
    have i1 : IntsAt W (u 65) ys := hF 27 (by omega) (dep 27 (by simp))
    have y0 := ev 63 rfl (by omega)
    have y1 := ev 65 rfl (by omega)
    exact .inl ⟨(wanted_some (D := DC10) (a0 := a0) hgd hog hdg rfl (by omega) hug).trans rfl, wp_call (f := 16) (args := #[u 63, u 65]) (by simp only [execOp, op]; go_simp; exact ⟨(getD_at _ _).symm.trans y0, (getD_at _ _).symm.trans y1⟩) ((likeInts_same i0 i1 hy2).mono (by rintro e w' ⟨rfl, q, rfl⟩; exact ⟨_, rfl, _, put_in hd rfl u _, ⟨rfl, rfl, rfl, Nat.le_refl _, fun _ _ => rfl⟩, rfl⟩))⟩
  · obtain ⟨hd, op, hgd, dep⟩ := hasD_at h29 ho
    obtain ⟨og, hog, hdg⟩ := hasD_ex h23
    have hug : u 61 = .bool false := hF 23 (by omega) (dep 23 (by simp))
    have y0 := (ev 66 rfl (by omega)).trans (hF 28 (by omega) (dep 28 (by simp)))
    exact .inl ⟨(wanted_some (D := DC10) (a0 := a0) hgd hog hdg rfl (by omega) hug).trans rfl, wp_value (v := .bool false) (w' := W) (by simp only [execOp, op, y0]; simp [go_sem, Result.andThen]) ⟨_, put_in hd rfl u _, Below.refl _ _, rfl⟩⟩
  · obtain ⟨hd, op, hgd, dep⟩ := hasD_at h30 ho
    have y0 := (ev 61 rfl (by omega)).trans (hF 23 (by omega) (dep 23 (by simp)))
    have y1 := (ev 67 rfl (by omega)).trans (hF 29 (by omega) (dep 29 (by simp)))
    exact .inl ⟨wanted_none hgd, wp_value (v := .bool false) (w' := W) (by simp only [execOp, op, y0, y1]; simp [go_sem, Result.andThen]) ⟨_, put_in hd rfl u _, Below.refl _ _, rfl⟩⟩
end Go.Proofs.Ytdogibjgogcdkac.gr
