/-
  The law FnGraphs: the region that asks whether right graphs stay right, by facts.
  Made from the template GraphsR.
-/
import Derived.Test.YtdogibjgogcdkabM1
import Derived.Test.YtdogibjgogcdkabRegionGuard
namespace Go.Proofs.Ytdogibjgogcdkab.gr
open Go.RowKit rows heads region
set_option maxRecDepth 100000
set_option linter.unusedVariables false
set_option linter.unusedSimpArgs false

def HasG (ops : Array Oper) (k : Nat) (d : Nat) (op : Op) (g : Option (Nat × Bool)) : Prop := ∃ o, ops[k]? = some o ∧ o.dst = some d ∧ o.op = op ∧ o.guard = g
theorem hasG_at {ops : Array Oper} {k d : Nat} {op : Op} {g : Option (Nat × Bool)} (h : HasG ops k d op g) {o : Oper} (ho : ops[k]? = some o) : o.dst = some d ∧ o.op = op ∧ o.guard = g := by
  obtain ⟨o', ho', h1, h2, h3⟩ := h
  rw [ho] at ho'
  injection ho' with ho'
  subst ho'
  exact ⟨h1, h2, h3⟩
theorem hasG_ex {ops : Array Oper} {k d : Nat} {op : Op} {g : Option (Nat × Bool)} (h : HasG ops k d op g) : ∃ o, ops[k]? = some o ∧ o.dst = some d := by
  obtain ⟨o, h0, h1, _⟩ := h
  exact ⟨o, h0, h1⟩
theorem rg_ldc {W : World} {P : Nat} {a1 a2 a3 : Option Addr} {n1 n2 n3 c1 c2 c3 : Nat} {x y : Int} (h : W.cell? ⟨P, 0, none⟩ = some (.slice a1 n1 c1) ∧ W.cell? ⟨P, 1, none⟩ = some (.slice a2 n2 c2) ∧ W.cell? ⟨P, 2, none⟩ = some (.slice a3 n3 c3) ∧ W.cell? ⟨P, 3, none⟩ = some (.int .i64 x) ∧ W.cell? ⟨P, 4, none⟩ = some (.int .i64 y)) : (Instr.loadAt 55 (.pointer (some ⟨P, 0, none⟩))).run Try.prog W = .ok (gv (.slice a1 n1 c1) (.slice a2 n2 c2) (.slice a3 n3 c3) x y) W := by
  obtain ⟨k0, k1, k2, k3, k4⟩ := h
  go_simp
/-- One of three, by two Bools. -/
def tri (A S : Bool) (vF vT vN : Value) : Value := bif A then (bif S then vT else vN) else vF
def dstG18 (k : Nat) : Nat := 138 + k
def DG18 (s : Nat) : Bool := decide (138 ≤ s) && decide (s ≤ 192)
def FG18 (A1 S1 A2 S2 A3 S3 : Bool) (Vg1 Vx1 Vg2 Vx2 Vg3 Vx3 : Value) (k : Nat) (t : Value) : Prop :=
  match k with
  | 0 => t = tri A1 S1 (Vg1) (Vg1) (Vg1)
  | 1 => t = tri A1 S1 (.bool false) (.bool true) (.bool true)
  | 2 => t = tri A1 S1 (.bool false) (.bool true) (.bool true)
  | 3 => t = tri A1 S1 (undef) (Vx1) (Vx1)
  | 4 => t = tri A1 S1 (undef) (.bool true) (.bool true)
  | 5 => t = tri A1 S1 (undef) (.bool false) (.bool false)
  | 6 => t = tri A1 S1 (undef) (.bool false) (.bool false)
  | 7 => t = tri A1 S1 (undef) (.bool true) (.bool false)
  | 8 => t = tri A1 S1 (undef) (.bool false) (.bool true)
  | 9 => t = tri A1 S1 (undef) (.bool false) (.bool true)
  | 10 => t = tri A1 S1 (undef) (undef) (Vx1)
  | 11 => t = tri A1 S1 (undef) (undef) (Vg1)
  | 12 => t = tri A1 S1 (undef) (undef) (.bool true)
  | 13 => t = tri A1 S1 (undef) (undef) (.bool false)
  | 14 => t = tri A1 S1 (undef) (.bool false) (.bool false)
  | 15 => t = tri A1 S1 (undef) (.bool false) (.bool false)
  | 16 => t = tri A1 S1 (.bool false) (.bool false) (.bool false)
  | 17 => t = tri A1 S1 (.bool false) (.bool false) (.bool false)
  | 18 => t = tri A2 S2 (Vg2) (Vg2) (Vg2)
  | 19 => t = tri A2 S2 (.bool false) (.bool true) (.bool true)
  | 20 => t = tri A2 S2 (.bool false) (.bool true) (.bool true)
  | 21 => t = tri A2 S2 (undef) (Vx2) (Vx2)
  | 22 => t = tri A2 S2 (undef) (.bool true) (.bool true)
  | 23 => t = tri A2 S2 (undef) (.bool false) (.bool false)
  | 24 => t = tri A2 S2 (undef) (.bool false) (.bool false)
  | 25 => t = tri A2 S2 (undef) (.bool true) (.bool false)
  | 26 => t = tri A2 S2 (undef) (.bool false) (.bool true)
  | 27 => t = tri A2 S2 (undef) (.bool false) (.bool true)
  | 28 => t = tri A2 S2 (undef) (undef) (Vx2)
  | 29 => t = tri A2 S2 (undef) (undef) (Vg2)
  | 30 => t = tri A2 S2 (undef) (undef) (.bool true)
  | 31 => t = tri A2 S2 (undef) (undef) (.bool false)
  | 32 => t = tri A2 S2 (undef) (.bool false) (.bool false)
  | 33 => t = tri A2 S2 (undef) (.bool false) (.bool false)
  | 34 => t = tri A2 S2 (.bool false) (.bool false) (.bool false)
  | 35 => t = tri A2 S2 (.bool false) (.bool false) (.bool false)
  | 36 => t = tri A2 S2 (.bool false) (.bool false) (.bool false)
  | 37 => t = tri A3 S3 (Vg3) (Vg3) (Vg3)
  | 38 => t = tri A3 S3 (.bool false) (.bool true) (.bool true)
  | 39 => t = tri A3 S3 (.bool false) (.bool true) (.bool true)
  | 40 => t = tri A3 S3 (undef) (Vx3) (Vx3)
  | 41 => t = tri A3 S3 (undef) (.bool true) (.bool true)
  | 42 => t = tri A3 S3 (undef) (.bool false) (.bool false)
  | 43 => t = tri A3 S3 (undef) (.bool false) (.bool false)
  | 44 => t = tri A3 S3 (undef) (.bool true) (.bool false)
  | 45 => t = tri A3 S3 (undef) (.bool false) (.bool true)
  | 46 => t = tri A3 S3 (undef) (.bool false) (.bool true)
  | 47 => t = tri A3 S3 (undef) (undef) (Vx3)
  | 48 => t = tri A3 S3 (undef) (undef) (Vg3)
  | 49 => t = tri A3 S3 (undef) (undef) (.bool true)
  | 50 => t = tri A3 S3 (undef) (undef) (.bool false)
  | 51 => t = tri A3 S3 (undef) (.bool false) (.bool false)
  | 52 => t = tri A3 S3 (undef) (.bool false) (.bool false)
  | 53 => t = tri A3 S3 (.bool false) (.bool false) (.bool false)
  | 54 => t = tri A3 S3 (.bool false) (.bool false) (.bool false)
  | _ => False

set_option maxHeartbeats 16000000 in
theorem regG18 {id : Nat} {ops : Array Oper} {a0 : Act} {Q : Exit → Act → World → Prop} {w : World} {A1 S1 A2 S2 A3 S3 : Bool} {Vg1 Vx1 Vg2 Vx2 Vg3 Vx3 : Value} {P1 P2 P3 P4 P5 P6 : Nat} (hn : ops.size = 55)
    (h0 : HasG ops 0 138 (.load 55 (.tmp 3)) none)
    (h1 : HasG ops 1 139 (.call { callee := .value (.func 40), args := #[.tmp 138], argTypes := #[55] }) none)
    (h2 : HasG ops 2 140 (.move (.tmp 139)) none)
    (h3 : HasG ops 3 141 (.load 55 (.tmp 8)) (some (2, true)))
    (h4 : HasG ops 4 142 (.call { callee := .value (.func 39), args := #[.tmp 141], argTypes := #[55] }) (some (2, true)))
    (h5 : HasG ops 5 143 (.unOp .not 4 (.tmp 142)) (some (2, true)))
    (h6 : HasG ops 6 144 (.move (.tmp 143)) (some (2, true)))
    (h7 : HasG ops 7 145 (.move (.tmp 9)) (some (6, false)))
    (h8 : HasG ops 8 146 (.unOp .not 4 (.tmp 145)) (some (6, false)))
    (h9 : HasG ops 9 147 (.move (.tmp 146)) (some (6, false)))
    (h10 : HasG ops 10 148 (.load 55 (.tmp 8)) (some (9, true)))
    (h11 : HasG ops 11 149 (.load 55 (.tmp 3)) (some (9, true)))
    (h12 : HasG ops 12 150 (.call { callee := .value (.func 38), args := #[.tmp 148, .tmp 149], argTypes := #[55, 55] }) (some (9, true)))
    (h13 : HasG ops 13 151 (.unOp .not 4 (.tmp 150)) (some (9, true)))
    (h14 : HasG ops 14 152 (.pick (.tmp 147) (.tmp 151) (.const (.bool false))) (some (6, false)))
    (h15 : HasG ops 15 153 (.pick (.tmp 144) (.const (.bool true)) (.tmp 152)) (some (2, true)))
    (h16 : HasG ops 16 154 (.pick (.tmp 140) (.tmp 153) (.const (.bool false))) none)
    (h17 : HasG ops 17 155 (.move (.tmp 154)) none)
    (h18 : HasG ops 18 156 (.load 55 (.tmp 10)) (some (17, false)))
    (h19 : HasG ops 19 157 (.call { callee := .value (.func 40), args := #[.tmp 156], argTypes := #[55] }) (some (17, false)))
    (h20 : HasG ops 20 158 (.move (.tmp 157)) (some (17, false)))
    (h21 : HasG ops 21 159 (.load 55 (.tmp 14)) (some (20, true)))
    (h22 : HasG ops 22 160 (.call { callee := .value (.func 39), args := #[.tmp 159], argTypes := #[55] }) (some (20, true)))
    (h23 : HasG ops 23 161 (.unOp .not 4 (.tmp 160)) (some (20, true)))
    (h24 : HasG ops 24 162 (.move (.tmp 161)) (some (20, true)))
    (h25 : HasG ops 25 163 (.move (.tmp 15)) (some (24, false)))
    (h26 : HasG ops 26 164 (.unOp .not 4 (.tmp 163)) (some (24, false)))
    (h27 : HasG ops 27 165 (.move (.tmp 164)) (some (24, false)))
    (h28 : HasG ops 28 166 (.load 55 (.tmp 14)) (some (27, true)))
    (h29 : HasG ops 29 167 (.load 55 (.tmp 10)) (some (27, true)))
    (h30 : HasG ops 30 168 (.call { callee := .value (.func 38), args := #[.tmp 166, .tmp 167], argTypes := #[55, 55] }) (some (27, true)))
    (h31 : HasG ops 31 169 (.unOp .not 4 (.tmp 168)) (some (27, true)))
    (h32 : HasG ops 32 170 (.pick (.tmp 165) (.tmp 169) (.const (.bool false))) (some (24, false)))
    (h33 : HasG ops 33 171 (.pick (.tmp 162) (.const (.bool true)) (.tmp 170)) (some (20, true)))
    (h34 : HasG ops 34 172 (.pick (.tmp 158) (.tmp 171) (.const (.bool false))) (some (17, false)))
    (h35 : HasG ops 35 173 (.pick (.tmp 155) (.const (.bool true)) (.tmp 172)) none)
    (h36 : HasG ops 36 174 (.move (.tmp 173)) none)
    (h37 : HasG ops 37 175 (.load 55 (.tmp 16)) (some (36, false)))
    (h38 : HasG ops 38 176 (.call { callee := .value (.func 40), args := #[.tmp 175], argTypes := #[55] }) (some (36, false)))
    (h39 : HasG ops 39 177 (.move (.tmp 176)) (some (36, false)))
    (h40 : HasG ops 40 178 (.load 55 (.tmp 20)) (some (39, true)))
    (h41 : HasG ops 41 179 (.call { callee := .value (.func 39), args := #[.tmp 178], argTypes := #[55] }) (some (39, true)))
    (h42 : HasG ops 42 180 (.unOp .not 4 (.tmp 179)) (some (39, true)))
    (h43 : HasG ops 43 181 (.move (.tmp 180)) (some (39, true)))
    (h44 : HasG ops 44 182 (.move (.tmp 21)) (some (43, false)))
    (h45 : HasG ops 45 183 (.unOp .not 4 (.tmp 182)) (some (43, false)))
    (h46 : HasG ops 46 184 (.move (.tmp 183)) (some (43, false)))
    (h47 : HasG ops 47 185 (.load 55 (.tmp 20)) (some (46, true)))
    (h48 : HasG ops 48 186 (.load 55 (.tmp 16)) (some (46, true)))
    (h49 : HasG ops 49 187 (.call { callee := .value (.func 38), args := #[.tmp 185, .tmp 186], argTypes := #[55, 55] }) (some (46, true)))
    (h50 : HasG ops 50 188 (.unOp .not 4 (.tmp 187)) (some (46, true)))
    (h51 : HasG ops 51 189 (.pick (.tmp 184) (.tmp 188) (.const (.bool false))) (some (43, false)))
    (h52 : HasG ops 52 190 (.pick (.tmp 181) (.const (.bool true)) (.tmp 189)) (some (39, true)))
    (h53 : HasG ops 53 191 (.pick (.tmp 177) (.tmp 190) (.const (.bool false))) (some (36, false)))
    (h54 : HasG ops 54 192 (.pick (.tmp 174) (.const (.bool true)) (.tmp 191)) none)
    (sz : 192 < a0.tmps.size) (e3 : a0.tmps.getD 3 undef = .pointer (some ⟨P1, 0, none⟩)) (e8 : a0.tmps.getD 8 undef = .pointer (some ⟨P2, 0, none⟩)) (e10 : a0.tmps.getD 10 undef = .pointer (some ⟨P3, 0, none⟩)) (e14 : a0.tmps.getD 14 undef = .pointer (some ⟨P4, 0, none⟩)) (e16 : a0.tmps.getD 16 undef = .pointer (some ⟨P5, 0, none⟩)) (e20 : a0.tmps.getD 20 undef = .pointer (some ⟨P6, 0, none⟩)) (e9 : a0.tmps.getD 9 undef = .bool S1) (e15 : a0.tmps.getD 15 undef = .bool S2) (e21 : a0.tmps.getD 21 undef = .bool S3)
    (LD1 : ∀ W, Below w.heap.size w W → (Instr.loadAt 55 (.pointer (some ⟨P1, 0, none⟩))).run Try.prog W = .ok Vg1 W) (LD2 : ∀ W, Below w.heap.size w W → (Instr.loadAt 55 (.pointer (some ⟨P2, 0, none⟩))).run Try.prog W = .ok Vx1 W) (LD3 : ∀ W, Below w.heap.size w W → (Instr.loadAt 55 (.pointer (some ⟨P3, 0, none⟩))).run Try.prog W = .ok Vg2 W) (LD4 : ∀ W, Below w.heap.size w W → (Instr.loadAt 55 (.pointer (some ⟨P4, 0, none⟩))).run Try.prog W = .ok Vx2 W) (LD5 : ∀ W, Below w.heap.size w W → (Instr.loadAt 55 (.pointer (some ⟨P5, 0, none⟩))).run Try.prog W = .ok Vg3 W) (LD6 : ∀ W, Below w.heap.size w W → (Instr.loadAt 55 (.pointer (some ⟨P6, 0, none⟩))).run Try.prog W = .ok Vx3 W)
    (SG1 : ∀ W, Below w.heap.size w W → Calls Try.prog 40 #[Vg1] W fun e w' => e = .returned (.bool A1) ∧ Below W.heap.size W w')
    (IG1 : A1 = true → ∀ W, Below w.heap.size w W → Calls Try.prog 39 #[Vx1] W fun e w' => e = .returned (.bool true) ∧ Below W.heap.size W w')
    (LK1 : A1 = true → S1 = false → ∀ W, Below w.heap.size w W → Calls Try.prog 38 #[Vx1, Vg1] W fun e w' => e = .returned (.bool true) ∧ Below W.heap.size W w')
    (SG2 : ∀ W, Below w.heap.size w W → Calls Try.prog 40 #[Vg2] W fun e w' => e = .returned (.bool A2) ∧ Below W.heap.size W w')
    (IG2 : A2 = true → ∀ W, Below w.heap.size w W → Calls Try.prog 39 #[Vx2] W fun e w' => e = .returned (.bool true) ∧ Below W.heap.size W w')
    (LK2 : A2 = true → S2 = false → ∀ W, Below w.heap.size w W → Calls Try.prog 38 #[Vx2, Vg2] W fun e w' => e = .returned (.bool true) ∧ Below W.heap.size W w')
    (SG3 : ∀ W, Below w.heap.size w W → Calls Try.prog 40 #[Vg3] W fun e w' => e = .returned (.bool A3) ∧ Below W.heap.size W w')
    (IG3 : A3 = true → ∀ W, Below w.heap.size w W → Calls Try.prog 39 #[Vx3] W fun e w' => e = .returned (.bool true) ∧ Below W.heap.size W w')
    (LK3 : A3 = true → S3 = false → ∀ W, Below w.heap.size w W → Calls Try.prog 38 #[Vx3, Vg3] W fun e w' => e = .returned (.bool true) ∧ Below W.heap.size W w')
    (fin : ∀ u w', u 192 = .bool false → Below w.heap.size w w' → Q .normal (ovr DG18 a0 u) w') :
    (Code.region id ops false).wp Try.prog Q a0 w := by
  refine wp_region_seq DG18 (fun W W' => Below W.heap.size W W') (fun a b c h k => h.trans (k.mono h.size)) (Below.refl _ w) 55 hn dstG18 (fun k hk j hj e => by unfold dstG18 at e; omega) (fun k t _ => FG18 A1 S1 A2 S2 A3 S3 Vg1 Vx1 Vg2 Vx2 Vg3 Vx3 k t) (fun _ _ _ _ _ h => h) ?_ (fun u W hB hF => fin u W (by have := hF 54 (by omega); revert this; unfold FG18 dstG18; cases A3 <;> cases S3 <;> exact fun h => h) hB)
  intro k o u W hk ho hB hF
  have ev : ∀ s, DG18 s = true → s < 193 → (ovr DG18 a0 u).eval (.tmp s) = u s := fun s h1 h2 => eval_in h1 (by omega)
  have x3 := (eval_out (D := DG18) (a0 := a0) (u := u) (s := 3) rfl (by omega)).trans e3
  have x8 := (eval_out (D := DG18) (a0 := a0) (u := u) (s := 8) rfl (by omega)).trans e8
  have x10 := (eval_out (D := DG18) (a0 := a0) (u := u) (s := 10) rfl (by omega)).trans e10
  have x14 := (eval_out (D := DG18) (a0 := a0) (u := u) (s := 14) rfl (by omega)).trans e14
  have x16 := (eval_out (D := DG18) (a0 := a0) (u := u) (s := 16) rfl (by omega)).trans e16
  have x20 := (eval_out (D := DG18) (a0 := a0) (u := u) (s := 20) rfl (by omega)).trans e20
  have x9 := (eval_out (D := DG18) (a0 := a0) (u := u) (s := 9) rfl (by omega)).trans e9
  have x15 := (eval_out (D := DG18) (a0 := a0) (u := u) (s := 15) rfl (by omega)).trans e15
  have x21 := (eval_out (D := DG18) (a0 := a0) (u := u) (s := 21) rfl (by omega)).trans e21
  have hF : ∀ j, j < k → FG18 A1 S1 A2 S2 A3 S3 Vg1 Vx1 Vg2 Vx2 Vg3 Vx3 j (u (138 + j)) := hF
  rcases (show k = 0 ∨ k = 1 ∨ k = 2 ∨ k = 3 ∨ k = 4 ∨ k = 5 ∨ k = 6 ∨ k = 7 ∨ k = 8 ∨ k = 9 ∨ k = 10 ∨ k = 11 ∨ k = 12 ∨ k = 13 ∨ k = 14 ∨ k = 15 ∨ k = 16 ∨ k = 17 ∨ k = 18 ∨ k = 19 ∨ k = 20 ∨ k = 21 ∨ k = 22 ∨ k = 23 ∨ k = 24 ∨ k = 25 ∨ k = 26 ∨ k = 27 ∨ k = 28 ∨ k = 29 ∨ k = 30 ∨ k = 31 ∨ k = 32 ∨ k = 33 ∨ k = 34 ∨ k = 35 ∨ k = 36 ∨ k = 37 ∨ k = 38 ∨ k = 39 ∨ k = 40 ∨ k = 41 ∨ k = 42 ∨ k = 43 ∨ k = 44 ∨ k = 45 ∨ k = 46 ∨ k = 47 ∨ k = 48 ∨ k = 49 ∨ k = 50 ∨ k = 51 ∨ k = 52 ∨ k = 53 ∨ k = 54 by omega) with rfl | rfl | rfl | rfl | rfl | rfl | rfl | rfl | rfl | rfl | rfl | rfl | rfl | rfl | rfl | rfl | rfl | rfl | rfl | rfl | rfl | rfl | rfl | rfl | rfl | rfl | rfl | rfl | rfl | rfl | rfl | rfl | rfl | rfl | rfl | rfl | rfl | rfl | rfl | rfl | rfl | rfl | rfl | rfl | rfl | rfl | rfl | rfl | rfl | rfl | rfl | rfl | rfl | rfl | rfl
  · obtain ⟨hd, op, hgd⟩ := hasG_at h0 ho
    cases A1 <;> cases S1
    · exact .inl ⟨wanted_none hgd, wp_value (v := Vg1) (w' := W) (by simp only [execOp, op, x3]; simp only [LD1 W hB, Result.andThen_ok, Sem.run_bind, Sem.run_pure]) ⟨_, put_in hd rfl u _, Below.refl _ _, rfl⟩⟩
    · exact .inl ⟨wanted_none hgd, wp_value (v := Vg1) (w' := W) (by simp only [execOp, op, x3]; simp only [LD1 W hB, Result.andThen_ok, Sem.run_bind, Sem.run_pure]) ⟨_, put_in hd rfl u _, Below.refl _ _, rfl⟩⟩
    · exact .inl ⟨wanted_none hgd, wp_value (v := Vg1) (w' := W) (by simp only [execOp, op, x3]; simp only [LD1 W hB, Result.andThen_ok, Sem.run_bind, Sem.run_pure]) ⟨_, put_in hd rfl u _, Below.refl _ _, rfl⟩⟩
    · exact .inl ⟨wanted_none hgd, wp_value (v := Vg1) (w' := W) (by simp only [execOp, op, x3]; simp only [LD1 W hB, Result.andThen_ok, Sem.run_bind, Sem.run_pure]) ⟨_, put_in hd rfl u _, Below.refl _ _, rfl⟩⟩
  · obtain ⟨hd, op, hgd⟩ := hasG_at h1 ho
    cases A1 <;> cases S1
    · have y0 : (ovr DG18 a0 u).eval (.tmp 138) = Vg1 := (ev 138 rfl (by omega)).trans (hF 0 (by omega))
      exact .inl ⟨wanted_none hgd, wp_call (f := 40) (args := #[Vg1]) (by simp only [execOp, op]; go_simp; exact (getD_at _ _).symm.trans y0) ((SG1 W hB).mono (by rintro e w' ⟨rfl, hb⟩; exact ⟨_, rfl, _, put_in hd rfl u _, hb, rfl⟩))⟩
    · have y0 : (ovr DG18 a0 u).eval (.tmp 138) = Vg1 := (ev 138 rfl (by omega)).trans (hF 0 (by omega))
      exact .inl ⟨wanted_none hgd, wp_call (f := 40) (args := #[Vg1]) (by simp only [execOp, op]; go_simp; exact (getD_at _ _).symm.trans y0) ((SG1 W hB).mono (by rintro e w' ⟨rfl, hb⟩; exact ⟨_, rfl, _, put_in hd rfl u _, hb, rfl⟩))⟩
    · have y0 : (ovr DG18 a0 u).eval (.tmp 138) = Vg1 := (ev 138 rfl (by omega)).trans (hF 0 (by omega))
      exact .inl ⟨wanted_none hgd, wp_call (f := 40) (args := #[Vg1]) (by simp only [execOp, op]; go_simp; exact (getD_at _ _).symm.trans y0) ((SG1 W hB).mono (by rintro e w' ⟨rfl, hb⟩; exact ⟨_, rfl, _, put_in hd rfl u _, hb, rfl⟩))⟩
    · have y0 : (ovr DG18 a0 u).eval (.tmp 138) = Vg1 := (ev 138 rfl (by omega)).trans (hF 0 (by omega))
      exact .inl ⟨wanted_none hgd, wp_call (f := 40) (args := #[Vg1]) (by simp only [execOp, op]; go_simp; exact (getD_at _ _).symm.trans y0) ((SG1 W hB).mono (by rintro e w' ⟨rfl, hb⟩; exact ⟨_, rfl, _, put_in hd rfl u _, hb, rfl⟩))⟩
  · obtain ⟨hd, op, hgd⟩ := hasG_at h2 ho
    cases A1 <;> cases S1
    · have y0 : (ovr DG18 a0 u).eval (.tmp 139) = .bool false := (ev 139 rfl (by omega)).trans (hF 1 (by omega))
      exact .inl ⟨wanted_none hgd, wp_value (v := .bool false) (w' := W) (by simp only [execOp, op, y0]; simp [go_sem, Result.andThen]) ⟨_, put_in hd rfl u _, Below.refl _ _, rfl⟩⟩
    · have y0 : (ovr DG18 a0 u).eval (.tmp 139) = .bool false := (ev 139 rfl (by omega)).trans (hF 1 (by omega))
      exact .inl ⟨wanted_none hgd, wp_value (v := .bool false) (w' := W) (by simp only [execOp, op, y0]; simp [go_sem, Result.andThen]) ⟨_, put_in hd rfl u _, Below.refl _ _, rfl⟩⟩
    · have y0 : (ovr DG18 a0 u).eval (.tmp 139) = .bool true := (ev 139 rfl (by omega)).trans (hF 1 (by omega))
      exact .inl ⟨wanted_none hgd, wp_value (v := .bool true) (w' := W) (by simp only [execOp, op, y0]; simp [go_sem, Result.andThen]) ⟨_, put_in hd rfl u _, Below.refl _ _, rfl⟩⟩
    · have y0 : (ovr DG18 a0 u).eval (.tmp 139) = .bool true := (ev 139 rfl (by omega)).trans (hF 1 (by omega))
      exact .inl ⟨wanted_none hgd, wp_value (v := .bool true) (w' := W) (by simp only [execOp, op, y0]; simp [go_sem, Result.andThen]) ⟨_, put_in hd rfl u _, Below.refl _ _, rfl⟩⟩
  · obtain ⟨hd, op, hgd⟩ := hasG_at h3 ho
    obtain ⟨og, hog, hdg⟩ := hasG_ex h2
    cases A1 <;> cases S1
    · have hug : u 140 = .bool false := hF 2 (by omega)
      exact .inr ⟨(wanted_some (D := DG18) (a0 := a0) hgd hog hdg rfl (by omega) hug).trans rfl, hd, rfl, rfl⟩
    · have hug : u 140 = .bool false := hF 2 (by omega)
      exact .inr ⟨(wanted_some (D := DG18) (a0 := a0) hgd hog hdg rfl (by omega) hug).trans rfl, hd, rfl, rfl⟩
    · have hug : u 140 = .bool true := hF 2 (by omega)
      exact .inl ⟨(wanted_some (D := DG18) (a0 := a0) hgd hog hdg rfl (by omega) hug).trans rfl, wp_value (v := Vx1) (w' := W) (by simp only [execOp, op, x8]; simp only [LD2 W hB, Result.andThen_ok, Sem.run_bind, Sem.run_pure]) ⟨_, put_in hd rfl u _, Below.refl _ _, rfl⟩⟩
    · have hug : u 140 = .bool true := hF 2 (by omega)
      exact .inl ⟨(wanted_some (D := DG18) (a0 := a0) hgd hog hdg rfl (by omega) hug).trans rfl, wp_value (v := Vx1) (w' := W) (by simp only [execOp, op, x8]; simp only [LD2 W hB, Result.andThen_ok, Sem.run_bind, Sem.run_pure]) ⟨_, put_in hd rfl u _, Below.refl _ _, rfl⟩⟩
  · obtain ⟨hd, op, hgd⟩ := hasG_at h4 ho
    obtain ⟨og, hog, hdg⟩ := hasG_ex h2
    cases A1 <;> cases S1
    · have hug : u 140 = .bool false := hF 2 (by omega)
      exact .inr ⟨(wanted_some (D := DG18) (a0 := a0) hgd hog hdg rfl (by omega) hug).trans rfl, hd, rfl, rfl⟩
    · have hug : u 140 = .bool false := hF 2 (by omega)
      exact .inr ⟨(wanted_some (D := DG18) (a0 := a0) hgd hog hdg rfl (by omega) hug).trans rfl, hd, rfl, rfl⟩
    · have hug : u 140 = .bool true := hF 2 (by omega)
      have y0 : (ovr DG18 a0 u).eval (.tmp 141) = Vx1 := (ev 141 rfl (by omega)).trans (hF 3 (by omega))
      exact .inl ⟨(wanted_some (D := DG18) (a0 := a0) hgd hog hdg rfl (by omega) hug).trans rfl, wp_call (f := 39) (args := #[Vx1]) (by simp only [execOp, op]; go_simp; exact (getD_at _ _).symm.trans y0) ((IG1 rfl W hB).mono (by rintro e w' ⟨rfl, hb⟩; exact ⟨_, rfl, _, put_in hd rfl u _, hb, rfl⟩))⟩
    · have hug : u 140 = .bool true := hF 2 (by omega)
      have y0 : (ovr DG18 a0 u).eval (.tmp 141) = Vx1 := (ev 141 rfl (by omega)).trans (hF 3 (by omega))
      exact .inl ⟨(wanted_some (D := DG18) (a0 := a0) hgd hog hdg rfl (by omega) hug).trans rfl, wp_call (f := 39) (args := #[Vx1]) (by simp only [execOp, op]; go_simp; exact (getD_at _ _).symm.trans y0) ((IG1 rfl W hB).mono (by rintro e w' ⟨rfl, hb⟩; exact ⟨_, rfl, _, put_in hd rfl u _, hb, rfl⟩))⟩
  · obtain ⟨hd, op, hgd⟩ := hasG_at h5 ho
    obtain ⟨og, hog, hdg⟩ := hasG_ex h2
    cases A1 <;> cases S1
    · have hug : u 140 = .bool false := hF 2 (by omega)
      exact .inr ⟨(wanted_some (D := DG18) (a0 := a0) hgd hog hdg rfl (by omega) hug).trans rfl, hd, rfl, rfl⟩
    · have hug : u 140 = .bool false := hF 2 (by omega)
      exact .inr ⟨(wanted_some (D := DG18) (a0 := a0) hgd hog hdg rfl (by omega) hug).trans rfl, hd, rfl, rfl⟩
    · have hug : u 140 = .bool true := hF 2 (by omega)
      have y0 : (ovr DG18 a0 u).eval (.tmp 142) = .bool true := (ev 142 rfl (by omega)).trans (hF 4 (by omega))
      exact .inl ⟨(wanted_some (D := DG18) (a0 := a0) hgd hog hdg rfl (by omega) hug).trans rfl, wp_value (v := .bool false) (w' := W) (by simp only [execOp, op, y0]; simp [go_sem, Result.andThen]) ⟨_, put_in hd rfl u _, Below.refl _ _, rfl⟩⟩
    · have hug : u 140 = .bool true := hF 2 (by omega)
      have y0 : (ovr DG18 a0 u).eval (.tmp 142) = .bool true := (ev 142 rfl (by omega)).trans (hF 4 (by omega))
      exact .inl ⟨(wanted_some (D := DG18) (a0 := a0) hgd hog hdg rfl (by omega) hug).trans rfl, wp_value (v := .bool false) (w' := W) (by simp only [execOp, op, y0]; simp [go_sem, Result.andThen]) ⟨_, put_in hd rfl u _, Below.refl _ _, rfl⟩⟩
  · obtain ⟨hd, op, hgd⟩ := hasG_at h6 ho
    obtain ⟨og, hog, hdg⟩ := hasG_ex h2
    cases A1 <;> cases S1
    · have hug : u 140 = .bool false := hF 2 (by omega)
      exact .inr ⟨(wanted_some (D := DG18) (a0 := a0) hgd hog hdg rfl (by omega) hug).trans rfl, hd, rfl, rfl⟩
    · have hug : u 140 = .bool false := hF 2 (by omega)
      exact .inr ⟨(wanted_some (D := DG18) (a0 := a0) hgd hog hdg rfl (by omega) hug).trans rfl, hd, rfl, rfl⟩
    · have hug : u 140 = .bool true := hF 2 (by omega)
      have y0 : (ovr DG18 a0 u).eval (.tmp 143) = .bool false := (ev 143 rfl (by omega)).trans (hF 5 (by omega))
      exact .inl ⟨(wanted_some (D := DG18) (a0 := a0) hgd hog hdg rfl (by omega) hug).trans rfl, wp_value (v := .bool false) (w' := W) (by simp only [execOp, op, y0]; simp [go_sem, Result.andThen]) ⟨_, put_in hd rfl u _, Below.refl _ _, rfl⟩⟩
    · have hug : u 140 = .bool true := hF 2 (by omega)
      have y0 : (ovr DG18 a0 u).eval (.tmp 143) = .bool false := (ev 143 rfl (by omega)).trans (hF 5 (by omega))
      exact .inl ⟨(wanted_some (D := DG18) (a0 := a0) hgd hog hdg rfl (by omega) hug).trans rfl, wp_value (v := .bool false) (w' := W) (by simp only [execOp, op, y0]; simp [go_sem, Result.andThen]) ⟨_, put_in hd rfl u _, Below.refl _ _, rfl⟩⟩
  · obtain ⟨hd, op, hgd⟩ := hasG_at h7 ho
    obtain ⟨og, hog, hdg⟩ := hasG_ex h6
    cases A1 <;> cases S1
    · have hug : u 144 = undef := hF 6 (by omega)
      exact .inr ⟨wanted_undef (D := DG18) (a0 := a0) hgd hog hdg rfl (by omega) hug, hd, rfl, rfl⟩
    · have hug : u 144 = undef := hF 6 (by omega)
      exact .inr ⟨wanted_undef (D := DG18) (a0 := a0) hgd hog hdg rfl (by omega) hug, hd, rfl, rfl⟩
    · have hug : u 144 = .bool false := hF 6 (by omega)
      exact .inl ⟨(wanted_some (D := DG18) (a0 := a0) hgd hog hdg rfl (by omega) hug).trans rfl, wp_value (v := .bool false) (w' := W) (by simp only [execOp, op, x9]; simp [go_sem, Result.andThen]) ⟨_, put_in hd rfl u _, Below.refl _ _, rfl⟩⟩
    · have hug : u 144 = .bool false := hF 6 (by omega)
      exact .inl ⟨(wanted_some (D := DG18) (a0 := a0) hgd hog hdg rfl (by omega) hug).trans rfl, wp_value (v := .bool true) (w' := W) (by simp only [execOp, op, x9]; simp [go_sem, Result.andThen]) ⟨_, put_in hd rfl u _, Below.refl _ _, rfl⟩⟩
  · obtain ⟨hd, op, hgd⟩ := hasG_at h8 ho
    obtain ⟨og, hog, hdg⟩ := hasG_ex h6
    cases A1 <;> cases S1
    · have hug : u 144 = undef := hF 6 (by omega)
      exact .inr ⟨wanted_undef (D := DG18) (a0 := a0) hgd hog hdg rfl (by omega) hug, hd, rfl, rfl⟩
    · have hug : u 144 = undef := hF 6 (by omega)
      exact .inr ⟨wanted_undef (D := DG18) (a0 := a0) hgd hog hdg rfl (by omega) hug, hd, rfl, rfl⟩
    · have hug : u 144 = .bool false := hF 6 (by omega)
      have y0 : (ovr DG18 a0 u).eval (.tmp 145) = .bool false := (ev 145 rfl (by omega)).trans (hF 7 (by omega))
      exact .inl ⟨(wanted_some (D := DG18) (a0 := a0) hgd hog hdg rfl (by omega) hug).trans rfl, wp_value (v := .bool true) (w' := W) (by simp only [execOp, op, y0]; simp [go_sem, Result.andThen]) ⟨_, put_in hd rfl u _, Below.refl _ _, rfl⟩⟩
    · have hug : u 144 = .bool false := hF 6 (by omega)
      have y0 : (ovr DG18 a0 u).eval (.tmp 145) = .bool true := (ev 145 rfl (by omega)).trans (hF 7 (by omega))
      exact .inl ⟨(wanted_some (D := DG18) (a0 := a0) hgd hog hdg rfl (by omega) hug).trans rfl, wp_value (v := .bool false) (w' := W) (by simp only [execOp, op, y0]; simp [go_sem, Result.andThen]) ⟨_, put_in hd rfl u _, Below.refl _ _, rfl⟩⟩
  · obtain ⟨hd, op, hgd⟩ := hasG_at h9 ho
    obtain ⟨og, hog, hdg⟩ := hasG_ex h6
    cases A1 <;> cases S1
    · have hug : u 144 = undef := hF 6 (by omega)
      exact .inr ⟨wanted_undef (D := DG18) (a0 := a0) hgd hog hdg rfl (by omega) hug, hd, rfl, rfl⟩
    · have hug : u 144 = undef := hF 6 (by omega)
      exact .inr ⟨wanted_undef (D := DG18) (a0 := a0) hgd hog hdg rfl (by omega) hug, hd, rfl, rfl⟩
    · have hug : u 144 = .bool false := hF 6 (by omega)
      have y0 : (ovr DG18 a0 u).eval (.tmp 146) = .bool true := (ev 146 rfl (by omega)).trans (hF 8 (by omega))
      exact .inl ⟨(wanted_some (D := DG18) (a0 := a0) hgd hog hdg rfl (by omega) hug).trans rfl, wp_value (v := .bool true) (w' := W) (by simp only [execOp, op, y0]; simp [go_sem, Result.andThen]) ⟨_, put_in hd rfl u _, Below.refl _ _, rfl⟩⟩
    · have hug : u 144 = .bool false := hF 6 (by omega)
      have y0 : (ovr DG18 a0 u).eval (.tmp 146) = .bool false := (ev 146 rfl (by omega)).trans (hF 8 (by omega))
      exact .inl ⟨(wanted_some (D := DG18) (a0 := a0) hgd hog hdg rfl (by omega) hug).trans rfl, wp_value (v := .bool false) (w' := W) (by simp only [execOp, op, y0]; simp [go_sem, Result.andThen]) ⟨_, put_in hd rfl u _, Below.refl _ _, rfl⟩⟩
  · obtain ⟨hd, op, hgd⟩ := hasG_at h10 ho
    obtain ⟨og, hog, hdg⟩ := hasG_ex h9
    cases A1 <;> cases S1
    · have hug : u 147 = undef := hF 9 (by omega)
      exact .inr ⟨wanted_undef (D := DG18) (a0 := a0) hgd hog hdg rfl (by omega) hug, hd, rfl, rfl⟩
    · have hug : u 147 = undef := hF 9 (by omega)
      exact .inr ⟨wanted_undef (D := DG18) (a0 := a0) hgd hog hdg rfl (by omega) hug, hd, rfl, rfl⟩
    · have hug : u 147 = .bool true := hF 9 (by omega)
      exact .inl ⟨(wanted_some (D := DG18) (a0 := a0) hgd hog hdg rfl (by omega) hug).trans rfl, wp_value (v := Vx1) (w' := W) (by simp only [execOp, op, x8]; simp only [LD2 W hB, Result.andThen_ok, Sem.run_bind, Sem.run_pure]) ⟨_, put_in hd rfl u _, Below.refl _ _, rfl⟩⟩
    · have hug : u 147 = .bool false := hF 9 (by omega)
      exact .inr ⟨(wanted_some (D := DG18) (a0 := a0) hgd hog hdg rfl (by omega) hug).trans rfl, hd, rfl, rfl⟩
  · obtain ⟨hd, op, hgd⟩ := hasG_at h11 ho
    obtain ⟨og, hog, hdg⟩ := hasG_ex h9
    cases A1 <;> cases S1
    · have hug : u 147 = undef := hF 9 (by omega)
      exact .inr ⟨wanted_undef (D := DG18) (a0 := a0) hgd hog hdg rfl (by omega) hug, hd, rfl, rfl⟩
    · have hug : u 147 = undef := hF 9 (by omega)
      exact .inr ⟨wanted_undef (D := DG18) (a0 := a0) hgd hog hdg rfl (by omega) hug, hd, rfl, rfl⟩
    · have hug : u 147 = .bool true := hF 9 (by omega)
      exact .inl ⟨(wanted_some (D := DG18) (a0 := a0) hgd hog hdg rfl (by omega) hug).trans rfl, wp_value (v := Vg1) (w' := W) (by simp only [execOp, op, x3]; simp only [LD1 W hB, Result.andThen_ok, Sem.run_bind, Sem.run_pure]) ⟨_, put_in hd rfl u _, Below.refl _ _, rfl⟩⟩
    · have hug : u 147 = .bool false := hF 9 (by omega)
      exact .inr ⟨(wanted_some (D := DG18) (a0 := a0) hgd hog hdg rfl (by omega) hug).trans rfl, hd, rfl, rfl⟩
  · obtain ⟨hd, op, hgd⟩ := hasG_at h12 ho
    obtain ⟨og, hog, hdg⟩ := hasG_ex h9
    cases A1 <;> cases S1
    · have hug : u 147 = undef := hF 9 (by omega)
      exact .inr ⟨wanted_undef (D := DG18) (a0 := a0) hgd hog hdg rfl (by omega) hug, hd, rfl, rfl⟩
    · have hug : u 147 = undef := hF 9 (by omega)
      exact .inr ⟨wanted_undef (D := DG18) (a0 := a0) hgd hog hdg rfl (by omega) hug, hd, rfl, rfl⟩
    · have hug : u 147 = .bool true := hF 9 (by omega)
      have y0 : (ovr DG18 a0 u).eval (.tmp 148) = Vx1 := (ev 148 rfl (by omega)).trans (hF 10 (by omega))
      have y1 : (ovr DG18 a0 u).eval (.tmp 149) = Vg1 := (ev 149 rfl (by omega)).trans (hF 11 (by omega))
      exact .inl ⟨(wanted_some (D := DG18) (a0 := a0) hgd hog hdg rfl (by omega) hug).trans rfl, wp_call (f := 38) (args := #[Vx1, Vg1]) (by simp only [execOp, op]; go_simp; exact ⟨(getD_at _ _).symm.trans y0, (getD_at _ _).symm.trans y1⟩) ((LK1 rfl rfl W hB).mono (by rintro e w' ⟨rfl, hb⟩; exact ⟨_, rfl, _, put_in hd rfl u _, hb, rfl⟩))⟩
    · have hug : u 147 = .bool false := hF 9 (by omega)
      exact .inr ⟨(wanted_some (D := DG18) (a0 := a0) hgd hog hdg rfl (by omega) hug).trans rfl, hd, rfl, rfl⟩
  · obtain ⟨hd, op, hgd⟩ := hasG_at h13 ho
    obtain ⟨og, hog, hdg⟩ := hasG_ex h9
    cases A1 <;> cases S1
    · have hug : u 147 = undef := hF 9 (by omega)
      exact .inr ⟨wanted_undef (D := DG18) (a0 := a0) hgd hog hdg rfl (by omega) hug, hd, rfl, rfl⟩
    · have hug : u 147 = undef := hF 9 (by omega)
      exact .inr ⟨wanted_undef (D := DG18) (a0 := a0) hgd hog hdg rfl (by omega) hug, hd, rfl, rfl⟩
    · have hug : u 147 = .bool true := hF 9 (by omega)
      have y0 : (ovr DG18 a0 u).eval (.tmp 150) = .bool true := (ev 150 rfl (by omega)).trans (hF 12 (by omega))
      exact .inl ⟨(wanted_some (D := DG18) (a0 := a0) hgd hog hdg rfl (by omega) hug).trans rfl, wp_value (v := .bool false) (w' := W) (by simp only [execOp, op, y0]; simp [go_sem, Result.andThen]) ⟨_, put_in hd rfl u _, Below.refl _ _, rfl⟩⟩
    · have hug : u 147 = .bool false := hF 9 (by omega)
      exact .inr ⟨(wanted_some (D := DG18) (a0 := a0) hgd hog hdg rfl (by omega) hug).trans rfl, hd, rfl, rfl⟩
  · obtain ⟨hd, op, hgd⟩ := hasG_at h14 ho
    obtain ⟨og, hog, hdg⟩ := hasG_ex h6
    cases A1 <;> cases S1
    · have hug : u 144 = undef := hF 6 (by omega)
      exact .inr ⟨wanted_undef (D := DG18) (a0 := a0) hgd hog hdg rfl (by omega) hug, hd, rfl, rfl⟩
    · have hug : u 144 = undef := hF 6 (by omega)
      exact .inr ⟨wanted_undef (D := DG18) (a0 := a0) hgd hog hdg rfl (by omega) hug, hd, rfl, rfl⟩
    · have hug : u 144 = .bool false := hF 6 (by omega)
      have y0 : (ovr DG18 a0 u).eval (.tmp 147) = .bool true := (ev 147 rfl (by omega)).trans (hF 9 (by omega))
      have y1 : (ovr DG18 a0 u).eval (.tmp 151) = .bool false := (ev 151 rfl (by omega)).trans (hF 13 (by omega))
      exact .inl ⟨(wanted_some (D := DG18) (a0 := a0) hgd hog hdg rfl (by omega) hug).trans rfl, wp_value (v := .bool false) (w' := W) (by simp only [execOp, op, y0, y1]; simp [go_sem, Result.andThen]) ⟨_, put_in hd rfl u _, Below.refl _ _, rfl⟩⟩
    · have hug : u 144 = .bool false := hF 6 (by omega)
      have y0 : (ovr DG18 a0 u).eval (.tmp 147) = .bool false := (ev 147 rfl (by omega)).trans (hF 9 (by omega))
      have y1 : (ovr DG18 a0 u).eval (.tmp 151) = undef := (ev 151 rfl (by omega)).trans (hF 13 (by omega))
      exact .inl ⟨(wanted_some (D := DG18) (a0 := a0) hgd hog hdg rfl (by omega) hug).trans rfl, wp_value (v := .bool false) (w' := W) (by simp only [execOp, op, y0, y1]; simp [go_sem, Result.andThen]) ⟨_, put_in hd rfl u _, Below.refl _ _, rfl⟩⟩
  · obtain ⟨hd, op, hgd⟩ := hasG_at h15 ho
    obtain ⟨og, hog, hdg⟩ := hasG_ex h2
    cases A1 <;> cases S1
    · have hug : u 140 = .bool false := hF 2 (by omega)
      exact .inr ⟨(wanted_some (D := DG18) (a0 := a0) hgd hog hdg rfl (by omega) hug).trans rfl, hd, rfl, rfl⟩
    · have hug : u 140 = .bool false := hF 2 (by omega)
      exact .inr ⟨(wanted_some (D := DG18) (a0 := a0) hgd hog hdg rfl (by omega) hug).trans rfl, hd, rfl, rfl⟩
    · have hug : u 140 = .bool true := hF 2 (by omega)
      have y0 : (ovr DG18 a0 u).eval (.tmp 144) = .bool false := (ev 144 rfl (by omega)).trans (hF 6 (by omega))
      have y1 : (ovr DG18 a0 u).eval (.tmp 152) = .bool false := (ev 152 rfl (by omega)).trans (hF 14 (by omega))
      exact .inl ⟨(wanted_some (D := DG18) (a0 := a0) hgd hog hdg rfl (by omega) hug).trans rfl, wp_value (v := .bool false) (w' := W) (by simp only [execOp, op, y0, y1]; simp [go_sem, Result.andThen]) ⟨_, put_in hd rfl u _, Below.refl _ _, rfl⟩⟩
    · have hug : u 140 = .bool true := hF 2 (by omega)
      have y0 : (ovr DG18 a0 u).eval (.tmp 144) = .bool false := (ev 144 rfl (by omega)).trans (hF 6 (by omega))
      have y1 : (ovr DG18 a0 u).eval (.tmp 152) = .bool false := (ev 152 rfl (by omega)).trans (hF 14 (by omega))
      exact .inl ⟨(wanted_some (D := DG18) (a0 := a0) hgd hog hdg rfl (by omega) hug).trans rfl, wp_value (v := .bool false) (w' := W) (by simp only [execOp, op, y0, y1]; simp [go_sem, Result.andThen]) ⟨_, put_in hd rfl u _, Below.refl _ _, rfl⟩⟩
  · obtain ⟨hd, op, hgd⟩ := hasG_at h16 ho
    cases A1 <;> cases S1
    · have y0 : (ovr DG18 a0 u).eval (.tmp 140) = .bool false := (ev 140 rfl (by omega)).trans (hF 2 (by omega))
      have y1 : (ovr DG18 a0 u).eval (.tmp 153) = undef := (ev 153 rfl (by omega)).trans (hF 15 (by omega))
      exact .inl ⟨wanted_none hgd, wp_value (v := .bool false) (w' := W) (by simp only [execOp, op, y0, y1]; simp [go_sem, Result.andThen]) ⟨_, put_in hd rfl u _, Below.refl _ _, rfl⟩⟩
    · have y0 : (ovr DG18 a0 u).eval (.tmp 140) = .bool false := (ev 140 rfl (by omega)).trans (hF 2 (by omega))
      have y1 : (ovr DG18 a0 u).eval (.tmp 153) = undef := (ev 153 rfl (by omega)).trans (hF 15 (by omega))
      exact .inl ⟨wanted_none hgd, wp_value (v := .bool false) (w' := W) (by simp only [execOp, op, y0, y1]; simp [go_sem, Result.andThen]) ⟨_, put_in hd rfl u _, Below.refl _ _, rfl⟩⟩
    · have y0 : (ovr DG18 a0 u).eval (.tmp 140) = .bool true := (ev 140 rfl (by omega)).trans (hF 2 (by omega))
      have y1 : (ovr DG18 a0 u).eval (.tmp 153) = .bool false := (ev 153 rfl (by omega)).trans (hF 15 (by omega))
      exact .inl ⟨wanted_none hgd, wp_value (v := .bool false) (w' := W) (by simp only [execOp, op, y0, y1]; simp [go_sem, Result.andThen]) ⟨_, put_in hd rfl u _, Below.refl _ _, rfl⟩⟩
    · have y0 : (ovr DG18 a0 u).eval (.tmp 140) = .bool true := (ev 140 rfl (by omega)).trans (hF 2 (by omega))
      have y1 : (ovr DG18 a0 u).eval (.tmp 153) = .bool false := (ev 153 rfl (by omega)).trans (hF 15 (by omega))
      exact .inl ⟨wanted_none hgd, wp_value (v := .bool false) (w' := W) (by simp only [execOp, op, y0, y1]; simp [go_sem, Result.andThen]) ⟨_, put_in hd rfl u _, Below.refl _ _, rfl⟩⟩
  · obtain ⟨hd, op, hgd⟩ := hasG_at h17 ho
    cases A1 <;> cases S1
    · have y0 : (ovr DG18 a0 u).eval (.tmp 154) = .bool false := (ev 154 rfl (by omega)).trans (hF 16 (by omega))
      exact .inl ⟨wanted_none hgd, wp_value (v := .bool false) (w' := W) (by simp only [execOp, op, y0]; simp [go_sem, Result.andThen]) ⟨_, put_in hd rfl u _, Below.refl _ _, rfl⟩⟩
    · have y0 : (ovr DG18 a0 u).eval (.tmp 154) = .bool false := (ev 154 rfl (by omega)).trans (hF 16 (by omega))
      exact .inl ⟨wanted_none hgd, wp_value (v := .bool false) (w' := W) (by simp only [execOp, op, y0]; simp [go_sem, Result.andThen]) ⟨_, put_in hd rfl u _, Below.refl _ _, rfl⟩⟩
    · have y0 : (ovr DG18 a0 u).eval (.tmp 154) = .bool false := (ev 154 rfl (by omega)).trans (hF 16 (by omega))
      exact .inl ⟨wanted_none hgd, wp_value (v := .bool false) (w' := W) (by simp only [execOp, op, y0]; simp [go_sem, Result.andThen]) ⟨_, put_in hd rfl u _, Below.refl _ _, rfl⟩⟩
    · have y0 : (ovr DG18 a0 u).eval (.tmp 154) = .bool false := (ev 154 rfl (by omega)).trans (hF 16 (by omega))
      exact .inl ⟨wanted_none hgd, wp_value (v := .bool false) (w' := W) (by simp only [execOp, op, y0]; simp [go_sem, Result.andThen]) ⟨_, put_in hd rfl u _, Below.refl _ _, rfl⟩⟩
  · obtain ⟨hd, op, hgd⟩ := hasG_at h18 ho
    obtain ⟨og, hog, hdg⟩ := hasG_ex h17
    have w17 : u 155 = .bool false := by have := hF 17 (by omega); revert this; unfold FG18; cases A1 <;> cases S1 <;> exact fun h => h
    cases A2 <;> cases S2
    · exact .inl ⟨(wanted_some (D := DG18) (a0 := a0) hgd hog hdg rfl (by omega) w17).trans rfl, wp_value (v := Vg2) (w' := W) (by simp only [execOp, op, x10]; simp only [LD3 W hB, Result.andThen_ok, Sem.run_bind, Sem.run_pure]) ⟨_, put_in hd rfl u _, Below.refl _ _, rfl⟩⟩
    · exact .inl ⟨(wanted_some (D := DG18) (a0 := a0) hgd hog hdg rfl (by omega) w17).trans rfl, wp_value (v := Vg2) (w' := W) (by simp only [execOp, op, x10]; simp only [LD3 W hB, Result.andThen_ok, Sem.run_bind, Sem.run_pure]) ⟨_, put_in hd rfl u _, Below.refl _ _, rfl⟩⟩
    · exact .inl ⟨(wanted_some (D := DG18) (a0 := a0) hgd hog hdg rfl (by omega) w17).trans rfl, wp_value (v := Vg2) (w' := W) (by simp only [execOp, op, x10]; simp only [LD3 W hB, Result.andThen_ok, Sem.run_bind, Sem.run_pure]) ⟨_, put_in hd rfl u _, Below.refl _ _, rfl⟩⟩
    · exact .inl ⟨(wanted_some (D := DG18) (a0 := a0) hgd hog hdg rfl (by omega) w17).trans rfl, wp_value (v := Vg2) (w' := W) (by simp only [execOp, op, x10]; simp only [LD3 W hB, Result.andThen_ok, Sem.run_bind, Sem.run_pure]) ⟨_, put_in hd rfl u _, Below.refl _ _, rfl⟩⟩
  · obtain ⟨hd, op, hgd⟩ := hasG_at h19 ho
    obtain ⟨og, hog, hdg⟩ := hasG_ex h17
    have w17 : u 155 = .bool false := by have := hF 17 (by omega); revert this; unfold FG18; cases A1 <;> cases S1 <;> exact fun h => h
    cases A2 <;> cases S2
    · have y0 : (ovr DG18 a0 u).eval (.tmp 156) = Vg2 := (ev 156 rfl (by omega)).trans (hF 18 (by omega))
      exact .inl ⟨(wanted_some (D := DG18) (a0 := a0) hgd hog hdg rfl (by omega) w17).trans rfl, wp_call (f := 40) (args := #[Vg2]) (by simp only [execOp, op]; go_simp; exact (getD_at _ _).symm.trans y0) ((SG2 W hB).mono (by rintro e w' ⟨rfl, hb⟩; exact ⟨_, rfl, _, put_in hd rfl u _, hb, rfl⟩))⟩
    · have y0 : (ovr DG18 a0 u).eval (.tmp 156) = Vg2 := (ev 156 rfl (by omega)).trans (hF 18 (by omega))
      exact .inl ⟨(wanted_some (D := DG18) (a0 := a0) hgd hog hdg rfl (by omega) w17).trans rfl, wp_call (f := 40) (args := #[Vg2]) (by simp only [execOp, op]; go_simp; exact (getD_at _ _).symm.trans y0) ((SG2 W hB).mono (by rintro e w' ⟨rfl, hb⟩; exact ⟨_, rfl, _, put_in hd rfl u _, hb, rfl⟩))⟩
    · have y0 : (ovr DG18 a0 u).eval (.tmp 156) = Vg2 := (ev 156 rfl (by omega)).trans (hF 18 (by omega))
      exact .inl ⟨(wanted_some (D := DG18) (a0 := a0) hgd hog hdg rfl (by omega) w17).trans rfl, wp_call (f := 40) (args := #[Vg2]) (by simp only [execOp, op]; go_simp; exact (getD_at _ _).symm.trans y0) ((SG2 W hB).mono (by rintro e w' ⟨rfl, hb⟩; exact ⟨_, rfl, _, put_in hd rfl u _, hb, rfl⟩))⟩
    · have y0 : (ovr DG18 a0 u).eval (.tmp 156) = Vg2 := (ev 156 rfl (by omega)).trans (hF 18 (by omega))
      exact .inl ⟨(wanted_some (D := DG18) (a0 := a0) hgd hog hdg rfl (by omega) w17).trans rfl, wp_call (f := 40) (args := #[Vg2]) (by simp only [execOp, op]; go_simp; exact (getD_at _ _).symm.trans y0) ((SG2 W hB).mono (by rintro e w' ⟨rfl, hb⟩; exact ⟨_, rfl, _, put_in hd rfl u _, hb, rfl⟩))⟩
  · obtain ⟨hd, op, hgd⟩ := hasG_at h20 ho
    obtain ⟨og, hog, hdg⟩ := hasG_ex h17
    have w17 : u 155 = .bool false := by have := hF 17 (by omega); revert this; unfold FG18; cases A1 <;> cases S1 <;> exact fun h => h
    cases A2 <;> cases S2
    · have y0 : (ovr DG18 a0 u).eval (.tmp 157) = .bool false := (ev 157 rfl (by omega)).trans (hF 19 (by omega))
      exact .inl ⟨(wanted_some (D := DG18) (a0 := a0) hgd hog hdg rfl (by omega) w17).trans rfl, wp_value (v := .bool false) (w' := W) (by simp only [execOp, op, y0]; simp [go_sem, Result.andThen]) ⟨_, put_in hd rfl u _, Below.refl _ _, rfl⟩⟩
    · have y0 : (ovr DG18 a0 u).eval (.tmp 157) = .bool false := (ev 157 rfl (by omega)).trans (hF 19 (by omega))
      exact .inl ⟨(wanted_some (D := DG18) (a0 := a0) hgd hog hdg rfl (by omega) w17).trans rfl, wp_value (v := .bool false) (w' := W) (by simp only [execOp, op, y0]; simp [go_sem, Result.andThen]) ⟨_, put_in hd rfl u _, Below.refl _ _, rfl⟩⟩
    · have y0 : (ovr DG18 a0 u).eval (.tmp 157) = .bool true := (ev 157 rfl (by omega)).trans (hF 19 (by omega))
      exact .inl ⟨(wanted_some (D := DG18) (a0 := a0) hgd hog hdg rfl (by omega) w17).trans rfl, wp_value (v := .bool true) (w' := W) (by simp only [execOp, op, y0]; simp [go_sem, Result.andThen]) ⟨_, put_in hd rfl u _, Below.refl _ _, rfl⟩⟩
    · have y0 : (ovr DG18 a0 u).eval (.tmp 157) = .bool true := (ev 157 rfl (by omega)).trans (hF 19 (by omega))
      exact .inl ⟨(wanted_some (D := DG18) (a0 := a0) hgd hog hdg rfl (by omega) w17).trans rfl, wp_value (v := .bool true) (w' := W) (by simp only [execOp, op, y0]; simp [go_sem, Result.andThen]) ⟨_, put_in hd rfl u _, Below.refl _ _, rfl⟩⟩
  · obtain ⟨hd, op, hgd⟩ := hasG_at h21 ho
    obtain ⟨og, hog, hdg⟩ := hasG_ex h20
    cases A2 <;> cases S2
    · have hug : u 158 = .bool false := hF 20 (by omega)
      exact .inr ⟨(wanted_some (D := DG18) (a0 := a0) hgd hog hdg rfl (by omega) hug).trans rfl, hd, rfl, rfl⟩
    · have hug : u 158 = .bool false := hF 20 (by omega)
      exact .inr ⟨(wanted_some (D := DG18) (a0 := a0) hgd hog hdg rfl (by omega) hug).trans rfl, hd, rfl, rfl⟩
    · have hug : u 158 = .bool true := hF 20 (by omega)
      exact .inl ⟨(wanted_some (D := DG18) (a0 := a0) hgd hog hdg rfl (by omega) hug).trans rfl, wp_value (v := Vx2) (w' := W) (by simp only [execOp, op, x14]; simp only [LD4 W hB, Result.andThen_ok, Sem.run_bind, Sem.run_pure]) ⟨_, put_in hd rfl u _, Below.refl _ _, rfl⟩⟩
    · have hug : u 158 = .bool true := hF 20 (by omega)
      exact .inl ⟨(wanted_some (D := DG18) (a0 := a0) hgd hog hdg rfl (by omega) hug).trans rfl, wp_value (v := Vx2) (w' := W) (by simp only [execOp, op, x14]; simp only [LD4 W hB, Result.andThen_ok, Sem.run_bind, Sem.run_pure]) ⟨_, put_in hd rfl u _, Below.refl _ _, rfl⟩⟩
  · obtain ⟨hd, op, hgd⟩ := hasG_at h22 ho
    obtain ⟨og, hog, hdg⟩ := hasG_ex h20
    cases A2 <;> cases S2
    · have hug : u 158 = .bool false := hF 20 (by omega)
      exact .inr ⟨(wanted_some (D := DG18) (a0 := a0) hgd hog hdg rfl (by omega) hug).trans rfl, hd, rfl, rfl⟩
    · have hug : u 158 = .bool false := hF 20 (by omega)
      exact .inr ⟨(wanted_some (D := DG18) (a0 := a0) hgd hog hdg rfl (by omega) hug).trans rfl, hd, rfl, rfl⟩
    · have hug : u 158 = .bool true := hF 20 (by omega)
      have y0 : (ovr DG18 a0 u).eval (.tmp 159) = Vx2 := (ev 159 rfl (by omega)).trans (hF 21 (by omega))
      exact .inl ⟨(wanted_some (D := DG18) (a0 := a0) hgd hog hdg rfl (by omega) hug).trans rfl, wp_call (f := 39) (args := #[Vx2]) (by simp only [execOp, op]; go_simp; exact (getD_at _ _).symm.trans y0) ((IG2 rfl W hB).mono (by rintro e w' ⟨rfl, hb⟩; exact ⟨_, rfl, _, put_in hd rfl u _, hb, rfl⟩))⟩
    · have hug : u 158 = .bool true := hF 20 (by omega)
      have y0 : (ovr DG18 a0 u).eval (.tmp 159) = Vx2 := (ev 159 rfl (by omega)).trans (hF 21 (by omega))
      exact .inl ⟨(wanted_some (D := DG18) (a0 := a0) hgd hog hdg rfl (by omega) hug).trans rfl, wp_call (f := 39) (args := #[Vx2]) (by simp only [execOp, op]; go_simp; exact (getD_at _ _).symm.trans y0) ((IG2 rfl W hB).mono (by rintro e w' ⟨rfl, hb⟩; exact ⟨_, rfl, _, put_in hd rfl u _, hb, rfl⟩))⟩
  · obtain ⟨hd, op, hgd⟩ := hasG_at h23 ho
    obtain ⟨og, hog, hdg⟩ := hasG_ex h20
    cases A2 <;> cases S2
    · have hug : u 158 = .bool false := hF 20 (by omega)
      exact .inr ⟨(wanted_some (D := DG18) (a0 := a0) hgd hog hdg rfl (by omega) hug).trans rfl, hd, rfl, rfl⟩
    · have hug : u 158 = .bool false := hF 20 (by omega)
      exact .inr ⟨(wanted_some (D := DG18) (a0 := a0) hgd hog hdg rfl (by omega) hug).trans rfl, hd, rfl, rfl⟩
    · have hug : u 158 = .bool true := hF 20 (by omega)
      have y0 : (ovr DG18 a0 u).eval (.tmp 160) = .bool true := (ev 160 rfl (by omega)).trans (hF 22 (by omega))
      exact .inl ⟨(wanted_some (D := DG18) (a0 := a0) hgd hog hdg rfl (by omega) hug).trans rfl, wp_value (v := .bool false) (w' := W) (by simp only [execOp, op, y0]; simp [go_sem, Result.andThen]) ⟨_, put_in hd rfl u _, Below.refl _ _, rfl⟩⟩
    · have hug : u 158 = .bool true := hF 20 (by omega)
      have y0 : (ovr DG18 a0 u).eval (.tmp 160) = .bool true := (ev 160 rfl (by omega)).trans (hF 22 (by omega))
      exact .inl ⟨(wanted_some (D := DG18) (a0 := a0) hgd hog hdg rfl (by omega) hug).trans rfl, wp_value (v := .bool false) (w' := W) (by simp only [execOp, op, y0]; simp [go_sem, Result.andThen]) ⟨_, put_in hd rfl u _, Below.refl _ _, rfl⟩⟩
  · obtain ⟨hd, op, hgd⟩ := hasG_at h24 ho
    obtain ⟨og, hog, hdg⟩ := hasG_ex h20
    cases A2 <;> cases S2
    · have hug : u 158 = .bool false := hF 20 (by omega)
      exact .inr ⟨(wanted_some (D := DG18) (a0 := a0) hgd hog hdg rfl (by omega) hug).trans rfl, hd, rfl, rfl⟩
    · have hug : u 158 = .bool false := hF 20 (by omega)
      exact .inr ⟨(wanted_some (D := DG18) (a0 := a0) hgd hog hdg rfl (by omega) hug).trans rfl, hd, rfl, rfl⟩
    · have hug : u 158 = .bool true := hF 20 (by omega)
      have y0 : (ovr DG18 a0 u).eval (.tmp 161) = .bool false := (ev 161 rfl (by omega)).trans (hF 23 (by omega))
      exact .inl ⟨(wanted_some (D := DG18) (a0 := a0) hgd hog hdg rfl (by omega) hug).trans rfl, wp_value (v := .bool false) (w' := W) (by simp only [execOp, op, y0]; simp [go_sem, Result.andThen]) ⟨_, put_in hd rfl u _, Below.refl _ _, rfl⟩⟩
    · have hug : u 158 = .bool true := hF 20 (by omega)
      have y0 : (ovr DG18 a0 u).eval (.tmp 161) = .bool false := (ev 161 rfl (by omega)).trans (hF 23 (by omega))
      exact .inl ⟨(wanted_some (D := DG18) (a0 := a0) hgd hog hdg rfl (by omega) hug).trans rfl, wp_value (v := .bool false) (w' := W) (by simp only [execOp, op, y0]; simp [go_sem, Result.andThen]) ⟨_, put_in hd rfl u _, Below.refl _ _, rfl⟩⟩
  · obtain ⟨hd, op, hgd⟩ := hasG_at h25 ho
    obtain ⟨og, hog, hdg⟩ := hasG_ex h24
    cases A2 <;> cases S2
    · have hug : u 162 = undef := hF 24 (by omega)
      exact .inr ⟨wanted_undef (D := DG18) (a0 := a0) hgd hog hdg rfl (by omega) hug, hd, rfl, rfl⟩
    · have hug : u 162 = undef := hF 24 (by omega)
      exact .inr ⟨wanted_undef (D := DG18) (a0 := a0) hgd hog hdg rfl (by omega) hug, hd, rfl, rfl⟩
    · have hug : u 162 = .bool false := hF 24 (by omega)
      exact .inl ⟨(wanted_some (D := DG18) (a0 := a0) hgd hog hdg rfl (by omega) hug).trans rfl, wp_value (v := .bool false) (w' := W) (by simp only [execOp, op, x15]; simp [go_sem, Result.andThen]) ⟨_, put_in hd rfl u _, Below.refl _ _, rfl⟩⟩
    · have hug : u 162 = .bool false := hF 24 (by omega)
      exact .inl ⟨(wanted_some (D := DG18) (a0 := a0) hgd hog hdg rfl (by omega) hug).trans rfl, wp_value (v := .bool true) (w' := W) (by simp only [execOp, op, x15]; simp [go_sem, Result.andThen]) ⟨_, put_in hd rfl u _, Below.refl _ _, rfl⟩⟩
  · obtain ⟨hd, op, hgd⟩ := hasG_at h26 ho
    obtain ⟨og, hog, hdg⟩ := hasG_ex h24
    cases A2 <;> cases S2
    · have hug : u 162 = undef := hF 24 (by omega)
      exact .inr ⟨wanted_undef (D := DG18) (a0 := a0) hgd hog hdg rfl (by omega) hug, hd, rfl, rfl⟩
    · have hug : u 162 = undef := hF 24 (by omega)
      exact .inr ⟨wanted_undef (D := DG18) (a0 := a0) hgd hog hdg rfl (by omega) hug, hd, rfl, rfl⟩
    · have hug : u 162 = .bool false := hF 24 (by omega)
      have y0 : (ovr DG18 a0 u).eval (.tmp 163) = .bool false := (ev 163 rfl (by omega)).trans (hF 25 (by omega))
      exact .inl ⟨(wanted_some (D := DG18) (a0 := a0) hgd hog hdg rfl (by omega) hug).trans rfl, wp_value (v := .bool true) (w' := W) (by simp only [execOp, op, y0]; simp [go_sem, Result.andThen]) ⟨_, put_in hd rfl u _, Below.refl _ _, rfl⟩⟩
    · have hug : u 162 = .bool false := hF 24 (by omega)
      have y0 : (ovr DG18 a0 u).eval (.tmp 163) = .bool true := (ev 163 rfl (by omega)).trans (hF 25 (by omega))
      exact .inl ⟨(wanted_some (D := DG18) (a0 := a0) hgd hog hdg rfl (by omega) hug).trans rfl, wp_value (v := .bool false) (w' := W) (by simp only [execOp, op, y0]; simp [go_sem, Result.andThen]) ⟨_, put_in hd rfl u _, Below.refl _ _, rfl⟩⟩
  · obtain ⟨hd, op, hgd⟩ := hasG_at h27 ho
    obtain ⟨og, hog, hdg⟩ := hasG_ex h24
    cases A2 <;> cases S2
    · have hug : u 162 = undef := hF 24 (by omega)
      exact .inr ⟨wanted_undef (D := DG18) (a0 := a0) hgd hog hdg rfl (by omega) hug, hd, rfl, rfl⟩
    · have hug : u 162 = undef := hF 24 (by omega)
      exact .inr ⟨wanted_undef (D := DG18) (a0 := a0) hgd hog hdg rfl (by omega) hug, hd, rfl, rfl⟩
    · have hug : u 162 = .bool false := hF 24 (by omega)
      have y0 : (ovr DG18 a0 u).eval (.tmp 164) = .bool true := (ev 164 rfl (by omega)).trans (hF 26 (by omega))
      exact .inl ⟨(wanted_some (D := DG18) (a0 := a0) hgd hog hdg rfl (by omega) hug).trans rfl, wp_value (v := .bool true) (w' := W) (by simp only [execOp, op, y0]; simp [go_sem, Result.andThen]) ⟨_, put_in hd rfl u _, Below.refl _ _, rfl⟩⟩
    · have hug : u 162 = .bool false := hF 24 (by omega)
      have y0 : (ovr DG18 a0 u).eval (.tmp 164) = .bool false := (ev 164 rfl (by omega)).trans (hF 26 (by omega))
      exact .inl ⟨(wanted_some (D := DG18) (a0 := a0) hgd hog hdg rfl (by omega) hug).trans rfl, wp_value (v := .bool false) (w' := W) (by simp only [execOp, op, y0]; simp [go_sem, Result.andThen]) ⟨_, put_in hd rfl u _, Below.refl _ _, rfl⟩⟩
  · obtain ⟨hd, op, hgd⟩ := hasG_at h28 ho
    obtain ⟨og, hog, hdg⟩ := hasG_ex h27
    cases A2 <;> cases S2
    · have hug : u 165 = undef := hF 27 (by omega)
      exact .inr ⟨wanted_undef (D := DG18) (a0 := a0) hgd hog hdg rfl (by omega) hug, hd, rfl, rfl⟩
    · have hug : u 165 = undef := hF 27 (by omega)
      exact .inr ⟨wanted_undef (D := DG18) (a0 := a0) hgd hog hdg rfl (by omega) hug, hd, rfl, rfl⟩
    · have hug : u 165 = .bool true := hF 27 (by omega)
      exact .inl ⟨(wanted_some (D := DG18) (a0 := a0) hgd hog hdg rfl (by omega) hug).trans rfl, wp_value (v := Vx2) (w' := W) (by simp only [execOp, op, x14]; simp only [LD4 W hB, Result.andThen_ok, Sem.run_bind, Sem.run_pure]) ⟨_, put_in hd rfl u _, Below.refl _ _, rfl⟩⟩
    · have hug : u 165 = .bool false := hF 27 (by omega)
      exact .inr ⟨(wanted_some (D := DG18) (a0 := a0) hgd hog hdg rfl (by omega) hug).trans rfl, hd, rfl, rfl⟩
  · obtain ⟨hd, op, hgd⟩ := hasG_at h29 ho
    obtain ⟨og, hog, hdg⟩ := hasG_ex h27
    cases A2 <;> cases S2
    · have hug : u 165 = undef := hF 27 (by omega)
      exact .inr ⟨wanted_undef (D := DG18) (a0 := a0) hgd hog hdg rfl (by omega) hug, hd, rfl, rfl⟩
    · have hug : u 165 = undef := hF 27 (by omega)
      exact .inr ⟨wanted_undef (D := DG18) (a0 := a0) hgd hog hdg rfl (by omega) hug, hd, rfl, rfl⟩
    · have hug : u 165 = .bool true := hF 27 (by omega)
      exact .inl ⟨(wanted_some (D := DG18) (a0 := a0) hgd hog hdg rfl (by omega) hug).trans rfl, wp_value (v := Vg2) (w' := W) (by simp only [execOp, op, x10]; simp only [LD3 W hB, Result.andThen_ok, Sem.run_bind, Sem.run_pure]) ⟨_, put_in hd rfl u _, Below.refl _ _, rfl⟩⟩
    · have hug : u 165 = .bool false := hF 27 (by omega)
      exact .inr ⟨(wanted_some (D := DG18) (a0 := a0) hgd hog hdg rfl (by omega) hug).trans rfl, hd, rfl, rfl⟩
  · obtain ⟨hd, op, hgd⟩ := hasG_at h30 ho
    obtain ⟨og, hog, hdg⟩ := hasG_ex h27
    cases A2 <;> cases S2
    · have hug : u 165 = undef := hF 27 (by omega)
      exact .inr ⟨wanted_undef (D := DG18) (a0 := a0) hgd hog hdg rfl (by omega) hug, hd, rfl, rfl⟩
    · have hug : u 165 = undef := hF 27 (by omega)
      exact .inr ⟨wanted_undef (D := DG18) (a0 := a0) hgd hog hdg rfl (by omega) hug, hd, rfl, rfl⟩
    · have hug : u 165 = .bool true := hF 27 (by omega)
      have y0 : (ovr DG18 a0 u).eval (.tmp 166) = Vx2 := (ev 166 rfl (by omega)).trans (hF 28 (by omega))
      have y1 : (ovr DG18 a0 u).eval (.tmp 167) = Vg2 := (ev 167 rfl (by omega)).trans (hF 29 (by omega))
      exact .inl ⟨(wanted_some (D := DG18) (a0 := a0) hgd hog hdg rfl (by omega) hug).trans rfl, wp_call (f := 38) (args := #[Vx2, Vg2]) (by simp only [execOp, op]; go_simp; exact ⟨(getD_at _ _).symm.trans y0, (getD_at _ _).symm.trans y1⟩) ((LK2 rfl rfl W hB).mono (by rintro e w' ⟨rfl, hb⟩; exact ⟨_, rfl, _, put_in hd rfl u _, hb, rfl⟩))⟩
    · have hug : u 165 = .bool false := hF 27 (by omega)
      exact .inr ⟨(wanted_some (D := DG18) (a0 := a0) hgd hog hdg rfl (by omega) hug).trans rfl, hd, rfl, rfl⟩
  · obtain ⟨hd, op, hgd⟩ := hasG_at h31 ho
    obtain ⟨og, hog, hdg⟩ := hasG_ex h27
    cases A2 <;> cases S2
    · have hug : u 165 = undef := hF 27 (by omega)
      exact .inr ⟨wanted_undef (D := DG18) (a0 := a0) hgd hog hdg rfl (by omega) hug, hd, rfl, rfl⟩
    · have hug : u 165 = undef := hF 27 (by omega)
      exact .inr ⟨wanted_undef (D := DG18) (a0 := a0) hgd hog hdg rfl (by omega) hug, hd, rfl, rfl⟩
    · have hug : u 165 = .bool true := hF 27 (by omega)
      have y0 : (ovr DG18 a0 u).eval (.tmp 168) = .bool true := (ev 168 rfl (by omega)).trans (hF 30 (by omega))
      exact .inl ⟨(wanted_some (D := DG18) (a0 := a0) hgd hog hdg rfl (by omega) hug).trans rfl, wp_value (v := .bool false) (w' := W) (by simp only [execOp, op, y0]; simp [go_sem, Result.andThen]) ⟨_, put_in hd rfl u _, Below.refl _ _, rfl⟩⟩
    · have hug : u 165 = .bool false := hF 27 (by omega)
      exact .inr ⟨(wanted_some (D := DG18) (a0 := a0) hgd hog hdg rfl (by omega) hug).trans rfl, hd, rfl, rfl⟩
  · obtain ⟨hd, op, hgd⟩ := hasG_at h32 ho
    obtain ⟨og, hog, hdg⟩ := hasG_ex h24
    cases A2 <;> cases S2
    · have hug : u 162 = undef := hF 24 (by omega)
      exact .inr ⟨wanted_undef (D := DG18) (a0 := a0) hgd hog hdg rfl (by omega) hug, hd, rfl, rfl⟩
    · have hug : u 162 = undef := hF 24 (by omega)
      exact .inr ⟨wanted_undef (D := DG18) (a0 := a0) hgd hog hdg rfl (by omega) hug, hd, rfl, rfl⟩
    · have hug : u 162 = .bool false := hF 24 (by omega)
      have y0 : (ovr DG18 a0 u).eval (.tmp 165) = .bool true := (ev 165 rfl (by omega)).trans (hF 27 (by omega))
      have y1 : (ovr DG18 a0 u).eval (.tmp 169) = .bool false := (ev 169 rfl (by omega)).trans (hF 31 (by omega))
      exact .inl ⟨(wanted_some (D := DG18) (a0 := a0) hgd hog hdg rfl (by omega) hug).trans rfl, wp_value (v := .bool false) (w' := W) (by simp only [execOp, op, y0, y1]; simp [go_sem, Result.andThen]) ⟨_, put_in hd rfl u _, Below.refl _ _, rfl⟩⟩
    · have hug : u 162 = .bool false := hF 24 (by omega)
      have y0 : (ovr DG18 a0 u).eval (.tmp 165) = .bool false := (ev 165 rfl (by omega)).trans (hF 27 (by omega))
      have y1 : (ovr DG18 a0 u).eval (.tmp 169) = undef := (ev 169 rfl (by omega)).trans (hF 31 (by omega))
      exact .inl ⟨(wanted_some (D := DG18) (a0 := a0) hgd hog hdg rfl (by omega) hug).trans rfl, wp_value (v := .bool false) (w' := W) (by simp only [execOp, op, y0, y1]; simp [go_sem, Result.andThen]) ⟨_, put_in hd rfl u _, Below.refl _ _, rfl⟩⟩
  · obtain ⟨hd, op, hgd⟩ := hasG_at h33 ho
    obtain ⟨og, hog, hdg⟩ := hasG_ex h20
    cases A2 <;> cases S2
    · have hug : u 158 = .bool false := hF 20 (by omega)
      exact .inr ⟨(wanted_some (D := DG18) (a0 := a0) hgd hog hdg rfl (by omega) hug).trans rfl, hd, rfl, rfl⟩
    · have hug : u 158 = .bool false := hF 20 (by omega)
      exact .inr ⟨(wanted_some (D := DG18) (a0 := a0) hgd hog hdg rfl (by omega) hug).trans rfl, hd, rfl, rfl⟩
    · have hug : u 158 = .bool true := hF 20 (by omega)
      have y0 : (ovr DG18 a0 u).eval (.tmp 162) = .bool false := (ev 162 rfl (by omega)).trans (hF 24 (by omega))
      have y1 : (ovr DG18 a0 u).eval (.tmp 170) = .bool false := (ev 170 rfl (by omega)).trans (hF 32 (by omega))
      exact .inl ⟨(wanted_some (D := DG18) (a0 := a0) hgd hog hdg rfl (by omega) hug).trans rfl, wp_value (v := .bool false) (w' := W) (by simp only [execOp, op, y0, y1]; simp [go_sem, Result.andThen]) ⟨_, put_in hd rfl u _, Below.refl _ _, rfl⟩⟩
    · have hug : u 158 = .bool true := hF 20 (by omega)
      have y0 : (ovr DG18 a0 u).eval (.tmp 162) = .bool false := (ev 162 rfl (by omega)).trans (hF 24 (by omega))
      have y1 : (ovr DG18 a0 u).eval (.tmp 170) = .bool false := (ev 170 rfl (by omega)).trans (hF 32 (by omega))
      exact .inl ⟨(wanted_some (D := DG18) (a0 := a0) hgd hog hdg rfl (by omega) hug).trans rfl, wp_value (v := .bool false) (w' := W) (by simp only [execOp, op, y0, y1]; simp [go_sem, Result.andThen]) ⟨_, put_in hd rfl u _, Below.refl _ _, rfl⟩⟩
  · obtain ⟨hd, op, hgd⟩ := hasG_at h34 ho
    obtain ⟨og, hog, hdg⟩ := hasG_ex h17
    have w17 : u 155 = .bool false := by have := hF 17 (by omega); revert this; unfold FG18; cases A1 <;> cases S1 <;> exact fun h => h
    cases A2 <;> cases S2
    · have y0 : (ovr DG18 a0 u).eval (.tmp 158) = .bool false := (ev 158 rfl (by omega)).trans (hF 20 (by omega))
      have y1 : (ovr DG18 a0 u).eval (.tmp 171) = undef := (ev 171 rfl (by omega)).trans (hF 33 (by omega))
      exact .inl ⟨(wanted_some (D := DG18) (a0 := a0) hgd hog hdg rfl (by omega) w17).trans rfl, wp_value (v := .bool false) (w' := W) (by simp only [execOp, op, y0, y1]; simp [go_sem, Result.andThen]) ⟨_, put_in hd rfl u _, Below.refl _ _, rfl⟩⟩
    · have y0 : (ovr DG18 a0 u).eval (.tmp 158) = .bool false := (ev 158 rfl (by omega)).trans (hF 20 (by omega))
      have y1 : (ovr DG18 a0 u).eval (.tmp 171) = undef := (ev 171 rfl (by omega)).trans (hF 33 (by omega))
      exact .inl ⟨(wanted_some (D := DG18) (a0 := a0) hgd hog hdg rfl (by omega) w17).trans rfl, wp_value (v := .bool false) (w' := W) (by simp only [execOp, op, y0, y1]; simp [go_sem, Result.andThen]) ⟨_, put_in hd rfl u _, Below.refl _ _, rfl⟩⟩
    · have y0 : (ovr DG18 a0 u).eval (.tmp 158) = .bool true := (ev 158 rfl (by omega)).trans (hF 20 (by omega))
      have y1 : (ovr DG18 a0 u).eval (.tmp 171) = .bool false := (ev 171 rfl (by omega)).trans (hF 33 (by omega))
      exact .inl ⟨(wanted_some (D := DG18) (a0 := a0) hgd hog hdg rfl (by omega) w17).trans rfl, wp_value (v := .bool false) (w' := W) (by simp only [execOp, op, y0, y1]; simp [go_sem, Result.andThen]) ⟨_, put_in hd rfl u _, Below.refl _ _, rfl⟩⟩
    · have y0 : (ovr DG18 a0 u).eval (.tmp 158) = .bool true := (ev 158 rfl (by omega)).trans (hF 20 (by omega))
      have y1 : (ovr DG18 a0 u).eval (.tmp 171) = .bool false := (ev 171 rfl (by omega)).trans (hF 33 (by omega))
      exact .inl ⟨(wanted_some (D := DG18) (a0 := a0) hgd hog hdg rfl (by omega) w17).trans rfl, wp_value (v := .bool false) (w' := W) (by simp only [execOp, op, y0, y1]; simp [go_sem, Result.andThen]) ⟨_, put_in hd rfl u _, Below.refl _ _, rfl⟩⟩
  · obtain ⟨hd, op, hgd⟩ := hasG_at h35 ho
    have w17 : u 155 = .bool false := by have := hF 17 (by omega); revert this; unfold FG18; cases A1 <;> cases S1 <;> exact fun h => h
    cases A2 <;> cases S2
    · have y0 := (ev 155 rfl (by omega)).trans w17
      have y1 : (ovr DG18 a0 u).eval (.tmp 172) = .bool false := (ev 172 rfl (by omega)).trans (hF 34 (by omega))
      exact .inl ⟨wanted_none hgd, wp_value (v := .bool false) (w' := W) (by simp only [execOp, op, y0, y1]; simp [go_sem, Result.andThen]) ⟨_, put_in hd rfl u _, Below.refl _ _, rfl⟩⟩
    · have y0 := (ev 155 rfl (by omega)).trans w17
      have y1 : (ovr DG18 a0 u).eval (.tmp 172) = .bool false := (ev 172 rfl (by omega)).trans (hF 34 (by omega))
      exact .inl ⟨wanted_none hgd, wp_value (v := .bool false) (w' := W) (by simp only [execOp, op, y0, y1]; simp [go_sem, Result.andThen]) ⟨_, put_in hd rfl u _, Below.refl _ _, rfl⟩⟩
    · have y0 := (ev 155 rfl (by omega)).trans w17
      have y1 : (ovr DG18 a0 u).eval (.tmp 172) = .bool false := (ev 172 rfl (by omega)).trans (hF 34 (by omega))
      exact .inl ⟨wanted_none hgd, wp_value (v := .bool false) (w' := W) (by simp only [execOp, op, y0, y1]; simp [go_sem, Result.andThen]) ⟨_, put_in hd rfl u _, Below.refl _ _, rfl⟩⟩
    · have y0 := (ev 155 rfl (by omega)).trans w17
      have y1 : (ovr DG18 a0 u).eval (.tmp 172) = .bool false := (ev 172 rfl (by omega)).trans (hF 34 (by omega))
      exact .inl ⟨wanted_none hgd, wp_value (v := .bool false) (w' := W) (by simp only [execOp, op, y0, y1]; simp [go_sem, Result.andThen]) ⟨_, put_in hd rfl u _, Below.refl _ _, rfl⟩⟩
  · obtain ⟨hd, op, hgd⟩ := hasG_at h36 ho
    cases A2 <;> cases S2
    · have y0 : (ovr DG18 a0 u).eval (.tmp 173) = .bool false := (ev 173 rfl (by omega)).trans (hF 35 (by omega))
      exact .inl ⟨wanted_none hgd, wp_value (v := .bool false) (w' := W) (by simp only [execOp, op, y0]; simp [go_sem, Result.andThen]) ⟨_, put_in hd rfl u _, Below.refl _ _, rfl⟩⟩
    · have y0 : (ovr DG18 a0 u).eval (.tmp 173) = .bool false := (ev 173 rfl (by omega)).trans (hF 35 (by omega))
      exact .inl ⟨wanted_none hgd, wp_value (v := .bool false) (w' := W) (by simp only [execOp, op, y0]; simp [go_sem, Result.andThen]) ⟨_, put_in hd rfl u _, Below.refl _ _, rfl⟩⟩
    · have y0 : (ovr DG18 a0 u).eval (.tmp 173) = .bool false := (ev 173 rfl (by omega)).trans (hF 35 (by omega))
      exact .inl ⟨wanted_none hgd, wp_value (v := .bool false) (w' := W) (by simp only [execOp, op, y0]; simp [go_sem, Result.andThen]) ⟨_, put_in hd rfl u _, Below.refl _ _, rfl⟩⟩
    · have y0 : (ovr DG18 a0 u).eval (.tmp 173) = .bool false := (ev 173 rfl (by omega)).trans (hF 35 (by omega))
      exact .inl ⟨wanted_none hgd, wp_value (v := .bool false) (w' := W) (by simp only [execOp, op, y0]; simp [go_sem, Result.andThen]) ⟨_, put_in hd rfl u _, Below.refl _ _, rfl⟩⟩
  · obtain ⟨hd, op, hgd⟩ := hasG_at h37 ho
    obtain ⟨og, hog, hdg⟩ := hasG_ex h36
    have w36 : u 174 = .bool false := by have := hF 36 (by omega); revert this; unfold FG18; cases A2 <;> cases S2 <;> exact fun h => h
    cases A3 <;> cases S3
    · exact .inl ⟨(wanted_some (D := DG18) (a0 := a0) hgd hog hdg rfl (by omega) w36).trans rfl, wp_value (v := Vg3) (w' := W) (by simp only [execOp, op, x16]; simp only [LD5 W hB, Result.andThen_ok, Sem.run_bind, Sem.run_pure]) ⟨_, put_in hd rfl u _, Below.refl _ _, rfl⟩⟩
    · exact .inl ⟨(wanted_some (D := DG18) (a0 := a0) hgd hog hdg rfl (by omega) w36).trans rfl, wp_value (v := Vg3) (w' := W) (by simp only [execOp, op, x16]; simp only [LD5 W hB, Result.andThen_ok, Sem.run_bind, Sem.run_pure]) ⟨_, put_in hd rfl u _, Below.refl _ _, rfl⟩⟩
    · exact .inl ⟨(wanted_some (D := DG18) (a0 := a0) hgd hog hdg rfl (by omega) w36).trans rfl, wp_value (v := Vg3) (w' := W) (by simp only [execOp, op, x16]; simp only [LD5 W hB, Result.andThen_ok, Sem.run_bind, Sem.run_pure]) ⟨_, put_in hd rfl u _, Below.refl _ _, rfl⟩⟩
    · exact .inl ⟨(wanted_some (D := DG18) (a0 := a0) hgd hog hdg rfl (by omega) w36).trans rfl, wp_value (v := Vg3) (w' := W) (by simp only [execOp, op, x16]; simp only [LD5 W hB, Result.andThen_ok, Sem.run_bind, Sem.run_pure]) ⟨_, put_in hd rfl u _, Below.refl _ _, rfl⟩⟩
  · obtain ⟨hd, op, hgd⟩ := hasG_at h38 ho
    obtain ⟨og, hog, hdg⟩ := hasG_ex h36
    have w36 : u 174 = .bool false := by have := hF 36 (by omega); revert this; unfold FG18; cases A2 <;> cases S2 <;> exact fun h => h
    cases A3 <;> cases S3
    · have y0 : (ovr DG18 a0 u).eval (.tmp 175) = Vg3 := (ev 175 rfl (by omega)).trans (hF 37 (by omega))
      exact .inl ⟨(wanted_some (D := DG18) (a0 := a0) hgd hog hdg rfl (by omega) w36).trans rfl, wp_call (f := 40) (args := #[Vg3]) (by simp only [execOp, op]; go_simp; exact (getD_at _ _).symm.trans y0) ((SG3 W hB).mono (by rintro e w' ⟨rfl, hb⟩; exact ⟨_, rfl, _, put_in hd rfl u _, hb, rfl⟩))⟩
    · have y0 : (ovr DG18 a0 u).eval (.tmp 175) = Vg3 := (ev 175 rfl (by omega)).trans (hF 37 (by omega))
      exact .inl ⟨(wanted_some (D := DG18) (a0 := a0) hgd hog hdg rfl (by omega) w36).trans rfl, wp_call (f := 40) (args := #[Vg3]) (by simp only [execOp, op]; go_simp; exact (getD_at _ _).symm.trans y0) ((SG3 W hB).mono (by rintro e w' ⟨rfl, hb⟩; exact ⟨_, rfl, _, put_in hd rfl u _, hb, rfl⟩))⟩
    · have y0 : (ovr DG18 a0 u).eval (.tmp 175) = Vg3 := (ev 175 rfl (by omega)).trans (hF 37 (by omega))
      exact .inl ⟨(wanted_some (D := DG18) (a0 := a0) hgd hog hdg rfl (by omega) w36).trans rfl, wp_call (f := 40) (args := #[Vg3]) (by simp only [execOp, op]; go_simp; exact (getD_at _ _).symm.trans y0) ((SG3 W hB).mono (by rintro e w' ⟨rfl, hb⟩; exact ⟨_, rfl, _, put_in hd rfl u _, hb, rfl⟩))⟩
    · have y0 : (ovr DG18 a0 u).eval (.tmp 175) = Vg3 := (ev 175 rfl (by omega)).trans (hF 37 (by omega))
      exact .inl ⟨(wanted_some (D := DG18) (a0 := a0) hgd hog hdg rfl (by omega) w36).trans rfl, wp_call (f := 40) (args := #[Vg3]) (by simp only [execOp, op]; go_simp; exact (getD_at _ _).symm.trans y0) ((SG3 W hB).mono (by rintro e w' ⟨rfl, hb⟩; exact ⟨_, rfl, _, put_in hd rfl u _, hb, rfl⟩))⟩
  · obtain ⟨hd, op, hgd⟩ := hasG_at h39 ho
    obtain ⟨og, hog, hdg⟩ := hasG_ex h36
    have w36 : u 174 = .bool false := by have := hF 36 (by omega); revert this; unfold FG18; cases A2 <;> cases S2 <;> exact fun h => h
    cases A3 <;> cases S3
    · have y0 : (ovr DG18 a0 u).eval (.tmp 176) = .bool false := (ev 176 rfl (by omega)).trans (hF 38 (by omega))
      exact .inl ⟨(wanted_some (D := DG18) (a0 := a0) hgd hog hdg rfl (by omega) w36).trans rfl, wp_value (v := .bool false) (w' := W) (by simp only [execOp, op, y0]; simp [go_sem, Result.andThen]) ⟨_, put_in hd rfl u _, Below.refl _ _, rfl⟩⟩
    · have y0 : (ovr DG18 a0 u).eval (.tmp 176) = .bool false := (ev 176 rfl (by omega)).trans (hF 38 (by omega))
      exact .inl ⟨(wanted_some (D := DG18) (a0 := a0) hgd hog hdg rfl (by omega) w36).trans rfl, wp_value (v := .bool false) (w' := W) (by simp only [execOp, op, y0]; simp [go_sem, Result.andThen]) ⟨_, put_in hd rfl u _, Below.refl _ _, rfl⟩⟩
    · have y0 : (ovr DG18 a0 u).eval (.tmp 176) = .bool true := (ev 176 rfl (by omega)).trans (hF 38 (by omega))
      exact .inl ⟨(wanted_some (D := DG18) (a0 := a0) hgd hog hdg rfl (by omega) w36).trans rfl, wp_value (v := .bool true) (w' := W) (by simp only [execOp, op, y0]; simp [go_sem, Result.andThen]) ⟨_, put_in hd rfl u _, Below.refl _ _, rfl⟩⟩
    · have y0 : (ovr DG18 a0 u).eval (.tmp 176) = .bool true := (ev 176 rfl (by omega)).trans (hF 38 (by omega))
      exact .inl ⟨(wanted_some (D := DG18) (a0 := a0) hgd hog hdg rfl (by omega) w36).trans rfl, wp_value (v := .bool true) (w' := W) (by simp only [execOp, op, y0]; simp [go_sem, Result.andThen]) ⟨_, put_in hd rfl u _, Below.refl _ _, rfl⟩⟩
  · obtain ⟨hd, op, hgd⟩ := hasG_at h40 ho
    obtain ⟨og, hog, hdg⟩ := hasG_ex h39
    cases A3 <;> cases S3
    · have hug : u 177 = .bool false := hF 39 (by omega)
      exact .inr ⟨(wanted_some (D := DG18) (a0 := a0) hgd hog hdg rfl (by omega) hug).trans rfl, hd, rfl, rfl⟩
    · have hug : u 177 = .bool false := hF 39 (by omega)
      exact .inr ⟨(wanted_some (D := DG18) (a0 := a0) hgd hog hdg rfl (by omega) hug).trans rfl, hd, rfl, rfl⟩
    · have hug : u 177 = .bool true := hF 39 (by omega)
      exact .inl ⟨(wanted_some (D := DG18) (a0 := a0) hgd hog hdg rfl (by omega) hug).trans rfl, wp_value (v := Vx3) (w' := W) (by simp only [execOp, op, x20]; simp only [LD6 W hB, Result.andThen_ok, Sem.run_bind, Sem.run_pure]) ⟨_, put_in hd rfl u _, Below.refl _ _, rfl⟩⟩
    · have hug : u 177 = .bool true := hF 39 (by omega)
      exact .inl ⟨(wanted_some (D := DG18) (a0 := a0) hgd hog hdg rfl (by omega) hug).trans rfl, wp_value (v := Vx3) (w' := W) (by simp only [execOp, op, x20]; simp only [LD6 W hB, Result.andThen_ok, Sem.run_bind, Sem.run_pure]) ⟨_, put_in hd rfl u _, Below.refl _ _, rfl⟩⟩
  · obtain ⟨hd, op, hgd⟩ := hasG_at h41 ho
    obtain ⟨og, hog, hdg⟩ := hasG_ex h39
    cases A3 <;> cases S3
    · have hug : u 177 = .bool false := hF 39 (by omega)
      exact .inr ⟨(wanted_some (D := DG18) (a0 := a0) hgd hog hdg rfl (by omega) hug).trans rfl, hd, rfl, rfl⟩
    · have hug : u 177 = .bool false := hF 39 (by omega)
      exact .inr ⟨(wanted_some (D := DG18) (a0 := a0) hgd hog hdg rfl (by omega) hug).trans rfl, hd, rfl, rfl⟩
    · have hug : u 177 = .bool true := hF 39 (by omega)
      have y0 : (ovr DG18 a0 u).eval (.tmp 178) = Vx3 := (ev 178 rfl (by omega)).trans (hF 40 (by omega))
      exact .inl ⟨(wanted_some (D := DG18) (a0 := a0) hgd hog hdg rfl (by omega) hug).trans rfl, wp_call (f := 39) (args := #[Vx3]) (by simp only [execOp, op]; go_simp; exact (getD_at _ _).symm.trans y0) ((IG3 rfl W hB).mono (by rintro e w' ⟨rfl, hb⟩; exact ⟨_, rfl, _, put_in hd rfl u _, hb, rfl⟩))⟩
    · have hug : u 177 = .bool true := hF 39 (by omega)
      have y0 : (ovr DG18 a0 u).eval (.tmp 178) = Vx3 := (ev 178 rfl (by omega)).trans (hF 40 (by omega))
      exact .inl ⟨(wanted_some (D := DG18) (a0 := a0) hgd hog hdg rfl (by omega) hug).trans rfl, wp_call (f := 39) (args := #[Vx3]) (by simp only [execOp, op]; go_simp; exact (getD_at _ _).symm.trans y0) ((IG3 rfl W hB).mono (by rintro e w' ⟨rfl, hb⟩; exact ⟨_, rfl, _, put_in hd rfl u _, hb, rfl⟩))⟩
  · obtain ⟨hd, op, hgd⟩ := hasG_at h42 ho
    obtain ⟨og, hog, hdg⟩ := hasG_ex h39
    cases A3 <;> cases S3
    · have hug : u 177 = .bool false := hF 39 (by omega)
      exact .inr ⟨(wanted_some (D := DG18) (a0 := a0) hgd hog hdg rfl (by omega) hug).trans rfl, hd, rfl, rfl⟩
    · have hug : u 177 = .bool false := hF 39 (by omega)
      exact .inr ⟨(wanted_some (D := DG18) (a0 := a0) hgd hog hdg rfl (by omega) hug).trans rfl, hd, rfl, rfl⟩
    · have hug : u 177 = .bool true := hF 39 (by omega)
      have y0 : (ovr DG18 a0 u).eval (.tmp 179) = .bool true := (ev 179 rfl (by omega)).trans (hF 41 (by omega))
      exact .inl ⟨(wanted_some (D := DG18) (a0 := a0) hgd hog hdg rfl (by omega) hug).trans rfl, wp_value (v := .bool false) (w' := W) (by simp only [execOp, op, y0]; simp [go_sem, Result.andThen]) ⟨_, put_in hd rfl u _, Below.refl _ _, rfl⟩⟩
    · have hug : u 177 = .bool true := hF 39 (by omega)
      have y0 : (ovr DG18 a0 u).eval (.tmp 179) = .bool true := (ev 179 rfl (by omega)).trans (hF 41 (by omega))
      exact .inl ⟨(wanted_some (D := DG18) (a0 := a0) hgd hog hdg rfl (by omega) hug).trans rfl, wp_value (v := .bool false) (w' := W) (by simp only [execOp, op, y0]; simp [go_sem, Result.andThen]) ⟨_, put_in hd rfl u _, Below.refl _ _, rfl⟩⟩
  · obtain ⟨hd, op, hgd⟩ := hasG_at h43 ho
    obtain ⟨og, hog, hdg⟩ := hasG_ex h39
    cases A3 <;> cases S3
    · have hug : u 177 = .bool false := hF 39 (by omega)
      exact .inr ⟨(wanted_some (D := DG18) (a0 := a0) hgd hog hdg rfl (by omega) hug).trans rfl, hd, rfl, rfl⟩
    · have hug : u 177 = .bool false := hF 39 (by omega)
      exact .inr ⟨(wanted_some (D := DG18) (a0 := a0) hgd hog hdg rfl (by omega) hug).trans rfl, hd, rfl, rfl⟩
    · have hug : u 177 = .bool true := hF 39 (by omega)
      have y0 : (ovr DG18 a0 u).eval (.tmp 180) = .bool false := (ev 180 rfl (by omega)).trans (hF 42 (by omega))
      exact .inl ⟨(wanted_some (D := DG18) (a0 := a0) hgd hog hdg rfl (by omega) hug).trans rfl, wp_value (v := .bool false) (w' := W) (by simp only [execOp, op, y0]; simp [go_sem, Result.andThen]) ⟨_, put_in hd rfl u _, Below.refl _ _, rfl⟩⟩
    · have hug : u 177 = .bool true := hF 39 (by omega)
      have y0 : (ovr DG18 a0 u).eval (.tmp 180) = .bool false := (ev 180 rfl (by omega)).trans (hF 42 (by omega))
      exact .inl ⟨(wanted_some (D := DG18) (a0 := a0) hgd hog hdg rfl (by omega) hug).trans rfl, wp_value (v := .bool false) (w' := W) (by simp only [execOp, op, y0]; simp [go_sem, Result.andThen]) ⟨_, put_in hd rfl u _, Below.refl _ _, rfl⟩⟩
  · obtain ⟨hd, op, hgd⟩ := hasG_at h44 ho
    obtain ⟨og, hog, hdg⟩ := hasG_ex h43
    cases A3 <;> cases S3
    · have hug : u 181 = undef := hF 43 (by omega)
      exact .inr ⟨wanted_undef (D := DG18) (a0 := a0) hgd hog hdg rfl (by omega) hug, hd, rfl, rfl⟩
    · have hug : u 181 = undef := hF 43 (by omega)
      exact .inr ⟨wanted_undef (D := DG18) (a0 := a0) hgd hog hdg rfl (by omega) hug, hd, rfl, rfl⟩
    · have hug : u 181 = .bool false := hF 43 (by omega)
      exact .inl ⟨(wanted_some (D := DG18) (a0 := a0) hgd hog hdg rfl (by omega) hug).trans rfl, wp_value (v := .bool false) (w' := W) (by simp only [execOp, op, x21]; simp [go_sem, Result.andThen]) ⟨_, put_in hd rfl u _, Below.refl _ _, rfl⟩⟩
    · have hug : u 181 = .bool false := hF 43 (by omega)
      exact .inl ⟨(wanted_some (D := DG18) (a0 := a0) hgd hog hdg rfl (by omega) hug).trans rfl, wp_value (v := .bool true) (w' := W) (by simp only [execOp, op, x21]; simp [go_sem, Result.andThen]) ⟨_, put_in hd rfl u _, Below.refl _ _, rfl⟩⟩
  · obtain ⟨hd, op, hgd⟩ := hasG_at h45 ho
    obtain ⟨og, hog, hdg⟩ := hasG_ex h43
    cases A3 <;> cases S3
    · have hug : u 181 = undef := hF 43 (by omega)
      exact .inr ⟨wanted_undef (D := DG18) (a0 := a0) hgd hog hdg rfl (by omega) hug, hd, rfl, rfl⟩
    · have hug : u 181 = undef := hF 43 (by omega)
      exact .inr ⟨wanted_undef (D := DG18) (a0 := a0) hgd hog hdg rfl (by omega) hug, hd, rfl, rfl⟩
    · have hug : u 181 = .bool false := hF 43 (by omega)
      have y0 : (ovr DG18 a0 u).eval (.tmp 182) = .bool false := (ev 182 rfl (by omega)).trans (hF 44 (by omega))
      exact .inl ⟨(wanted_some (D := DG18) (a0 := a0) hgd hog hdg rfl (by omega) hug).trans rfl, wp_value (v := .bool true) (w' := W) (by simp only [execOp, op, y0]; simp [go_sem, Result.andThen]) ⟨_, put_in hd rfl u _, Below.refl _ _, rfl⟩⟩
    · have hug : u 181 = .bool false := hF 43 (by omega)
      have y0 : (ovr DG18 a0 u).eval (.tmp 182) = .bool true := (ev 182 rfl (by omega)).trans (hF 44 (by omega))
      exact .inl ⟨(wanted_some (D := DG18) (a0 := a0) hgd hog hdg rfl (by omega) hug).trans rfl, wp_value (v := .bool false) (w' := W) (by simp only [execOp, op, y0]; simp [go_sem, Result.andThen]) ⟨_, put_in hd rfl u _, Below.refl _ _, rfl⟩⟩
  · obtain ⟨hd, op, hgd⟩ := hasG_at h46 ho
    obtain ⟨og, hog, hdg⟩ := hasG_ex h43
    cases A3 <;> cases S3
    · have hug : u 181 = undef := hF 43 (by omega)
      exact .inr ⟨wanted_undef (D := DG18) (a0 := a0) hgd hog hdg rfl (by omega) hug, hd, rfl, rfl⟩
    · have hug : u 181 = undef := hF 43 (by omega)
      exact .inr ⟨wanted_undef (D := DG18) (a0 := a0) hgd hog hdg rfl (by omega) hug, hd, rfl, rfl⟩
    · have hug : u 181 = .bool false := hF 43 (by omega)
      have y0 : (ovr DG18 a0 u).eval (.tmp 183) = .bool true := (ev 183 rfl (by omega)).trans (hF 45 (by omega))
      exact .inl ⟨(wanted_some (D := DG18) (a0 := a0) hgd hog hdg rfl (by omega) hug).trans rfl, wp_value (v := .bool true) (w' := W) (by simp only [execOp, op, y0]; simp [go_sem, Result.andThen]) ⟨_, put_in hd rfl u _, Below.refl _ _, rfl⟩⟩
    · have hug : u 181 = .bool false := hF 43 (by omega)
      have y0 : (ovr DG18 a0 u).eval (.tmp 183) = .bool false := (ev 183 rfl (by omega)).trans (hF 45 (by omega))
      exact .inl ⟨(wanted_some (D := DG18) (a0 := a0) hgd hog hdg rfl (by omega) hug).trans rfl, wp_value (v := .bool false) (w' := W) (by simp only [execOp, op, y0]; simp [go_sem, Result.andThen]) ⟨_, put_in hd rfl u _, Below.refl _ _, rfl⟩⟩
  · obtain ⟨hd, op, hgd⟩ := hasG_at h47 ho
    obtain ⟨og, hog, hdg⟩ := hasG_ex h46
    cases A3 <;> cases S3
    · have hug : u 184 = undef := hF 46 (by omega)
      exact .inr ⟨wanted_undef (D := DG18) (a0 := a0) hgd hog hdg rfl (by omega) hug, hd, rfl, rfl⟩
    · have hug : u 184 = undef := hF 46 (by omega)
      exact .inr ⟨wanted_undef (D := DG18) (a0 := a0) hgd hog hdg rfl (by omega) hug, hd, rfl, rfl⟩
    · have hug : u 184 = .bool true := hF 46 (by omega)
      exact .inl ⟨(wanted_some (D := DG18) (a0 := a0) hgd hog hdg rfl (by omega) hug).trans rfl, wp_value (v := Vx3) (w' := W) (by simp only [execOp, op, x20]; simp only [LD6 W hB, Result.andThen_ok, Sem.run_bind, Sem.run_pure]) ⟨_, put_in hd rfl u _, Below.refl _ _, rfl⟩⟩
    · have hug : u 184 = .bool false := hF 46 (by omega)
      exact .inr ⟨(wanted_some (D := DG18) (a0 := a0) hgd hog hdg rfl (by omega) hug).trans rfl, hd, rfl, rfl⟩
  · obtain ⟨hd, op, hgd⟩ := hasG_at h48 ho
    obtain ⟨og, hog, hdg⟩ := hasG_ex h46
    cases A3 <;> cases S3
    · have hug : u 184 = undef := hF 46 (by omega)
      exact .inr ⟨wanted_undef (D := DG18) (a0 := a0) hgd hog hdg rfl (by omega) hug, hd, rfl, rfl⟩
    · have hug : u 184 = undef := hF 46 (by omega)
      exact .inr ⟨wanted_undef (D := DG18) (a0 := a0) hgd hog hdg rfl (by omega) hug, hd, rfl, rfl⟩
    · have hug : u 184 = .bool true := hF 46 (by omega)
      exact .inl ⟨(wanted_some (D := DG18) (a0 := a0) hgd hog hdg rfl (by omega) hug).trans rfl, wp_value (v := Vg3) (w' := W) (by simp only [execOp, op, x16]; simp only [LD5 W hB, Result.andThen_ok, Sem.run_bind, Sem.run_pure]) ⟨_, put_in hd rfl u _, Below.refl _ _, rfl⟩⟩
    · have hug : u 184 = .bool false := hF 46 (by omega)
      exact .inr ⟨(wanted_some (D := DG18) (a0 := a0) hgd hog hdg rfl (by omega) hug).trans rfl, hd, rfl, rfl⟩
  · obtain ⟨hd, op, hgd⟩ := hasG_at h49 ho
    obtain ⟨og, hog, hdg⟩ := hasG_ex h46
    cases A3 <;> cases S3
    · have hug : u 184 = undef := hF 46 (by omega)
      exact .inr ⟨wanted_undef (D := DG18) (a0 := a0) hgd hog hdg rfl (by omega) hug, hd, rfl, rfl⟩
    · have hug : u 184 = undef := hF 46 (by omega)
      exact .inr ⟨wanted_undef (D := DG18) (a0 := a0) hgd hog hdg rfl (by omega) hug, hd, rfl, rfl⟩
    · have hug : u 184 = .bool true := hF 46 (by omega)
      have y0 : (ovr DG18 a0 u).eval (.tmp 185) = Vx3 := (ev 185 rfl (by omega)).trans (hF 47 (by omega))
      have y1 : (ovr DG18 a0 u).eval (.tmp 186) = Vg3 := (ev 186 rfl (by omega)).trans (hF 48 (by omega))
      exact .inl ⟨(wanted_some (D := DG18) (a0 := a0) hgd hog hdg rfl (by omega) hug).trans rfl, wp_call (f := 38) (args := #[Vx3, Vg3]) (by simp only [execOp, op]; go_simp; exact ⟨(getD_at _ _).symm.trans y0, (getD_at _ _).symm.trans y1⟩) ((LK3 rfl rfl W hB).mono (by rintro e w' ⟨rfl, hb⟩; exact ⟨_, rfl, _, put_in hd rfl u _, hb, rfl⟩))⟩
    · have hug : u 184 = .bool false := hF 46 (by omega)
      exact .inr ⟨(wanted_some (D := DG18) (a0 := a0) hgd hog hdg rfl (by omega) hug).trans rfl, hd, rfl, rfl⟩
  · obtain ⟨hd, op, hgd⟩ := hasG_at h50 ho
    obtain ⟨og, hog, hdg⟩ := hasG_ex h46
    cases A3 <;> cases S3
    · have hug : u 184 = undef := hF 46 (by omega)
      exact .inr ⟨wanted_undef (D := DG18) (a0 := a0) hgd hog hdg rfl (by omega) hug, hd, rfl, rfl⟩
    · have hug : u 184 = undef := hF 46 (by omega)
      exact .inr ⟨wanted_undef (D := DG18) (a0 := a0) hgd hog hdg rfl (by omega) hug, hd, rfl, rfl⟩
    · have hug : u 184 = .bool true := hF 46 (by omega)
      have y0 : (ovr DG18 a0 u).eval (.tmp 187) = .bool true := (ev 187 rfl (by omega)).trans (hF 49 (by omega))
      exact .inl ⟨(wanted_some (D := DG18) (a0 := a0) hgd hog hdg rfl (by omega) hug).trans rfl, wp_value (v := .bool false) (w' := W) (by simp only [execOp, op, y0]; simp [go_sem, Result.andThen]) ⟨_, put_in hd rfl u _, Below.refl _ _, rfl⟩⟩
    · have hug : u 184 = .bool false := hF 46 (by omega)
      exact .inr ⟨(wanted_some (D := DG18) (a0 := a0) hgd hog hdg rfl (by omega) hug).trans rfl, hd, rfl, rfl⟩
  · obtain ⟨hd, op, hgd⟩ := hasG_at h51 ho
    obtain ⟨og, hog, hdg⟩ := hasG_ex h43
    cases A3 <;> cases S3
    · have hug : u 181 = undef := hF 43 (by omega)
      exact .inr ⟨wanted_undef (D := DG18) (a0 := a0) hgd hog hdg rfl (by omega) hug, hd, rfl, rfl⟩
    · have hug : u 181 = undef := hF 43 (by omega)
      exact .inr ⟨wanted_undef (D := DG18) (a0 := a0) hgd hog hdg rfl (by omega) hug, hd, rfl, rfl⟩
    · have hug : u 181 = .bool false := hF 43 (by omega)
      have y0 : (ovr DG18 a0 u).eval (.tmp 184) = .bool true := (ev 184 rfl (by omega)).trans (hF 46 (by omega))
      have y1 : (ovr DG18 a0 u).eval (.tmp 188) = .bool false := (ev 188 rfl (by omega)).trans (hF 50 (by omega))
      exact .inl ⟨(wanted_some (D := DG18) (a0 := a0) hgd hog hdg rfl (by omega) hug).trans rfl, wp_value (v := .bool false) (w' := W) (by simp only [execOp, op, y0, y1]; simp [go_sem, Result.andThen]) ⟨_, put_in hd rfl u _, Below.refl _ _, rfl⟩⟩
    · have hug : u 181 = .bool false := hF 43 (by omega)
      have y0 : (ovr DG18 a0 u).eval (.tmp 184) = .bool false := (ev 184 rfl (by omega)).trans (hF 46 (by omega))
      have y1 : (ovr DG18 a0 u).eval (.tmp 188) = undef := (ev 188 rfl (by omega)).trans (hF 50 (by omega))
      exact .inl ⟨(wanted_some (D := DG18) (a0 := a0) hgd hog hdg rfl (by omega) hug).trans rfl, wp_value (v := .bool false) (w' := W) (by simp only [execOp, op, y0, y1]; simp [go_sem, Result.andThen]) ⟨_, put_in hd rfl u _, Below.refl _ _, rfl⟩⟩
  · obtain ⟨hd, op, hgd⟩ := hasG_at h52 ho
    obtain ⟨og, hog, hdg⟩ := hasG_ex h39
    cases A3 <;> cases S3
    · have hug : u 177 = .bool false := hF 39 (by omega)
      exact .inr ⟨(wanted_some (D := DG18) (a0 := a0) hgd hog hdg rfl (by omega) hug).trans rfl, hd, rfl, rfl⟩
    · have hug : u 177 = .bool false := hF 39 (by omega)
      exact .inr ⟨(wanted_some (D := DG18) (a0 := a0) hgd hog hdg rfl (by omega) hug).trans rfl, hd, rfl, rfl⟩
    · have hug : u 177 = .bool true := hF 39 (by omega)
      have y0 : (ovr DG18 a0 u).eval (.tmp 181) = .bool false := (ev 181 rfl (by omega)).trans (hF 43 (by omega))
      have y1 : (ovr DG18 a0 u).eval (.tmp 189) = .bool false := (ev 189 rfl (by omega)).trans (hF 51 (by omega))
      exact .inl ⟨(wanted_some (D := DG18) (a0 := a0) hgd hog hdg rfl (by omega) hug).trans rfl, wp_value (v := .bool false) (w' := W) (by simp only [execOp, op, y0, y1]; simp [go_sem, Result.andThen]) ⟨_, put_in hd rfl u _, Below.refl _ _, rfl⟩⟩
    · have hug : u 177 = .bool true := hF 39 (by omega)
      have y0 : (ovr DG18 a0 u).eval (.tmp 181) = .bool false := (ev 181 rfl (by omega)).trans (hF 43 (by omega))
      have y1 : (ovr DG18 a0 u).eval (.tmp 189) = .bool false := (ev 189 rfl (by omega)).trans (hF 51 (by omega))
      exact .inl ⟨(wanted_some (D := DG18) (a0 := a0) hgd hog hdg rfl (by omega) hug).trans rfl, wp_value (v := .bool false) (w' := W) (by simp only [execOp, op, y0, y1]; simp [go_sem, Result.andThen]) ⟨_, put_in hd rfl u _, Below.refl _ _, rfl⟩⟩
  · obtain ⟨hd, op, hgd⟩ := hasG_at h53 ho
    obtain ⟨og, hog, hdg⟩ := hasG_ex h36
    have w36 : u 174 = .bool false := by have := hF 36 (by omega); revert this; unfold FG18; cases A2 <;> cases S2 <;> exact fun h => h
    cases A3 <;> cases S3
    · have y0 : (ovr DG18 a0 u).eval (.tmp 177) = .bool false := (ev 177 rfl (by omega)).trans (hF 39 (by omega))
      have y1 : (ovr DG18 a0 u).eval (.tmp 190) = undef := (ev 190 rfl (by omega)).trans (hF 52 (by omega))
      exact .inl ⟨(wanted_some (D := DG18) (a0 := a0) hgd hog hdg rfl (by omega) w36).trans rfl, wp_value (v := .bool false) (w' := W) (by simp only [execOp, op, y0, y1]; simp [go_sem, Result.andThen]) ⟨_, put_in hd rfl u _, Below.refl _ _, rfl⟩⟩
    · have y0 : (ovr DG18 a0 u).eval (.tmp 177) = .bool false := (ev 177 rfl (by omega)).trans (hF 39 (by omega))
      have y1 : (ovr DG18 a0 u).eval (.tmp 190) = undef := (ev 190 rfl (by omega)).trans (hF 52 (by omega))
      exact .inl ⟨(wanted_some (D := DG18) (a0 := a0) hgd hog hdg rfl (by omega) w36).trans rfl, wp_value (v := .bool false) (w' := W) (by simp only [execOp, op, y0, y1]; simp [go_sem, Result.andThen]) ⟨_, put_in hd rfl u _, Below.refl _ _, rfl⟩⟩
    · have y0 : (ovr DG18 a0 u).eval (.tmp 177) = .bool true := (ev 177 rfl (by omega)).trans (hF 39 (by omega))
      have y1 : (ovr DG18 a0 u).eval (.tmp 190) = .bool false := (ev 190 rfl (by omega)).trans (hF 52 (by omega))
      exact .inl ⟨(wanted_some (D := DG18) (a0 := a0) hgd hog hdg rfl (by omega) w36).trans rfl, wp_value (v := .bool false) (w' := W) (by simp only [execOp, op, y0, y1]; simp [go_sem, Result.andThen]) ⟨_, put_in hd rfl u _, Below.refl _ _, rfl⟩⟩
    · have y0 : (ovr DG18 a0 u).eval (.tmp 177) = .bool true := (ev 177 rfl (by omega)).trans (hF 39 (by omega))
      have y1 : (ovr DG18 a0 u).eval (.tmp 190) = .bool false := (ev 190 rfl (by omega)).trans (hF 52 (by omega))
      exact .inl ⟨(wanted_some (D := DG18) (a0 := a0) hgd hog hdg rfl (by omega) w36).trans rfl, wp_value (v := .bool false) (w' := W) (by simp only [execOp, op, y0, y1]; simp [go_sem, Result.andThen]) ⟨_, put_in hd rfl u _, Below.refl _ _, rfl⟩⟩
  · obtain ⟨hd, op, hgd⟩ := hasG_at h54 ho
    have w36 : u 174 = .bool false := by have := hF 36 (by omega); revert this; unfold FG18; cases A2 <;> cases S2 <;> exact fun h => h
    cases A3 <;> cases S3
    · have y0 := (ev 174 rfl (by omega)).trans w36
      have y1 : (ovr DG18 a0 u).eval (.tmp 191) = .bool false := (ev 191 rfl (by omega)).trans (hF 53 (by omega))
      exact .inl ⟨wanted_none hgd, wp_value (v := .bool false) (w' := W) (by simp only [execOp, op, y0, y1]; simp [go_sem, Result.andThen]) ⟨_, put_in hd rfl u _, Below.refl _ _, rfl⟩⟩
    · have y0 := (ev 174 rfl (by omega)).trans w36
      have y1 : (ovr DG18 a0 u).eval (.tmp 191) = .bool false := (ev 191 rfl (by omega)).trans (hF 53 (by omega))
      exact .inl ⟨wanted_none hgd, wp_value (v := .bool false) (w' := W) (by simp only [execOp, op, y0, y1]; simp [go_sem, Result.andThen]) ⟨_, put_in hd rfl u _, Below.refl _ _, rfl⟩⟩
    · have y0 := (ev 174 rfl (by omega)).trans w36
      have y1 : (ovr DG18 a0 u).eval (.tmp 191) = .bool false := (ev 191 rfl (by omega)).trans (hF 53 (by omega))
      exact .inl ⟨wanted_none hgd, wp_value (v := .bool false) (w' := W) (by simp only [execOp, op, y0, y1]; simp [go_sem, Result.andThen]) ⟨_, put_in hd rfl u _, Below.refl _ _, rfl⟩⟩
    · have y0 := (ev 174 rfl (by omega)).trans w36
      have y1 : (ovr DG18 a0 u).eval (.tmp 191) = .bool false := (ev 191 rfl (by omega)).trans (hF 53 (by omega))
      exact .inl ⟨wanted_none hgd, wp_value (v := .bool false) (w' := W) (by simp only [execOp, op, y0, y1]; simp [go_sem, Result.andThen]) ⟨_, put_in hd rfl u _, Below.refl _ _, rfl⟩⟩
end Go.Proofs.Ytdogibjgogcdkab.gr
