/-
  A wrong entry at the end of a drawn list, out of two literal lists, whatever the order of the region.
  Made from the template DrawReg9.
-/
import Derived.Test.YtdogibjgogcdkabDrawReg
import Derived.Maps.AppendAt
namespace Go.Proofs.Ytdogibjgogcdkab.draw
open Go.RowKit rows ents region

/-- The operation k of a region: its slot, what it is, what it waits for. -/
def Has (ops : Array Oper) (k d : Nat) (op : Op) (deps : List Nat) : Prop := ∃ o, ops[k]? = some o ∧ o.dst = some d ∧ o.op = op ∧ ∀ j ∈ deps, ∃ e ∈ o.after, e.on = j ∧ Region.binds .any e = true
theorem has_at {ops : Array Oper} {k d : Nat} {op : Op} {deps : List Nat} (h : Has ops k d op deps) {o : Oper} (ho : ops[k]? = some o) {l : Array Bool} (hd : ∀ e ∈ o.after, Region.binds .any e = true → l.getD e.on false = true) : o.dst = some d ∧ o.op = op ∧ ∀ j ∈ deps, l.getD j false = true := by
  obtain ⟨o', ho', h1, h2, h3⟩ := h
  rw [ho] at ho'
  injection ho' with ho'
  subst ho'
  refine ⟨h1, h2, fun j hj => ?_⟩
  obtain ⟨e, he, rfl, hb⟩ := h3 j hj
  exact hd e he hb

theorem ownE_cur9 {w w' : World} {base bk : Nat} {v : Value} {es : List Ent} (h : OwnE w base v es) (hb : bk < base) (hg : w.grownBy w' (some bk)) : OwnE w' base v es := by
  refine World.ownsRow.kept h hg ?_
  cases e : v.ownBlock with
  | none => exact .inl rfl
  | some k => have := World.ownsRow.lt h k e; exact .inr (fun e' => by injection e' with e'; omega)

/-- What is known of the slot of the operation k. -/
def F9 (n0 base : Nat) (v3 pc : Value) (k : Nat) (t : Value) (w : World) : Prop :=
  match k with
  | 0 => t = v3
  | 1 => ∃ g, n0 ≤ g ∧ t = .slice (some ⟨g, 0, none⟩) 4 4 ∧ w.heap[g]? = some ints4
  | 2 => t = pc
  | 3 => ∃ j : Nat, j < 4 ∧ t = .int .i64 j
  | 4 => ∃ g j : Nat, n0 ≤ g ∧ j < 4 ∧ t = .pointer (some ⟨g, j, none⟩) ∧ w.heap[g]? = some ints4
  | 5 => ∃ x : Int, -1 ≤ x ∧ x ≤ 100 ∧ t = .int .i64 x
  | 6 => ∃ g, n0 ≤ g ∧ t = .slice (some ⟨g, 0, none⟩) 21 21 ∧ w.heap[g]? = some (madeB 21)
  | 7 => ∃ s : ByteArray, s.size ≤ 64 ∧ t = .string s
  | 8 => ∃ (g : Nat) (s : ByteArray), n0 ≤ g ∧ s.size ≤ 64 ∧ t = .slice (some ⟨g, 0, none⟩) 4 4 ∧ w.heap[g]? = some (strs4 s)
  | 9 => t = pc
  | 10 => ∃ j : Nat, j < 4 ∧ t = .int .i64 j
  | 11 => ∃ (g j : Nat) (s : ByteArray), n0 ≤ g ∧ j < 4 ∧ s.size ≤ 64 ∧ t = .pointer (some ⟨g, j, none⟩) ∧ w.heap[g]? = some (strs4 s)
  | 12 => ∃ s : ByteArray, s.size ≤ 64 ∧ t = .string s
  | 13 => ∃ (x : Int) (s : ByteArray), (-1 ≤ x ∧ x ≤ 100) ∧ s.size ≤ 64 ∧ t = ev (x, s)
  | 14 => ∃ (g : Nat) (x : Int) (s : ByteArray), n0 ≤ g ∧ (-1 ≤ x ∧ x ≤ 100) ∧ s.size ≤ 64 ∧ t = .slice (some ⟨g, 0, none⟩) 1 1 ∧ w.heap[g]? = some (.cells #[.int .i64 x, .string s] 49 (0, 0))
  | _ => ∃ fs : List Ent, Borne fs ∧ fs.length ≤ 63 ∧ namesLen fs ≤ 65000 ∧ OwnE w base t fs

theorem F9_kept {n0 base : Nat} {v3 pc : Value} {w w' : World} (hk : ∀ g, n0 ≤ g → g < w.heap.size → w'.heap[g]? = w.heap[g]?) (k : Nat) (hk15 : k < 15) (t : Value) (h : F9 n0 base v3 pc k t w) : F9 n0 base v3 pc k t w' := by
  have B : ∀ {g : Nat} {o : Obj}, n0 ≤ g → w.heap[g]? = some o → w'.heap[g]? = some o := fun hg ho => by
    rw [hk _ hg (Array.getElem?_eq_some_iff.1 ho).1]; exact ho
  match k, hk15, h with
  | 0, _, h => exact h
  | 1, _, ⟨g, h1, h2, h3⟩ => exact ⟨g, h1, h2, B h1 h3⟩
  | 2, _, h => exact h
  | 3, _, h => exact h
  | 4, _, ⟨g, j, h1, h2, h3, h4⟩ => exact ⟨g, j, h1, h2, h3, B h1 h4⟩
  | 5, _, h => exact h
  | 6, _, ⟨g, h1, h2, h3⟩ => exact ⟨g, h1, h2, B h1 h3⟩
  | 7, _, h => exact h
  | 8, _, ⟨g, s, h1, h2, h3, h4⟩ => exact ⟨g, s, h1, h2, h3, B h1 h4⟩
  | 9, _, h => exact h
  | 10, _, h => exact h
  | 11, _, ⟨g, j, s, h1, h2, h3, h4, h5⟩ => exact ⟨g, j, s, h1, h2, h3, h4, B h1 h5⟩
  | 12, _, h => exact h
  | 13, _, h => exact h
  | 14, _, ⟨g, x, s, h1, h2, h3, h4, h5⟩ => exact ⟨g, x, s, h1, h2, h3, h4, B h1 h5⟩
theorem F9_grown {n0 base bk : Nat} {v3 pc : Value} {w w' : World} (hb : bk < base) (hbn : bk < n0) (hg : w.grownBy w' (some bk)) (k : Nat) (t : Value) (h : F9 n0 base v3 pc k t w) : F9 n0 base v3 pc k t w' := by
  rcases Nat.lt_or_ge k 15 with hk | hk
  · exact F9_kept (fun g h1 h2 => hg.block g h2 (fun e => by injection e with e; omega)) k hk t h
  · match k, hk, h with
    | k + 15, _, ⟨fs, h1, h2, h3, h4⟩ => exact ⟨fs, h1, h2, h3, ownE_cur9 h4 hb hg⟩

abbrev dst9 (k : Nat) : Nat := if k = 16 then 3 else 31 + k
theorem dst9_inj (k : Nat) (hk : k < 17) : ∀ j, j < 17 → dst9 j = dst9 k → j = k := by
  intro j hj e
  unfold dst9 at e
  split at e <;> split at e <;> omega
def D9 (s : Nat) : Bool := s == 3 || (decide (31 ≤ s) && decide (s ≤ 46))

structure I9 (w00 : World) (n0 base bk : Nat) (a : Option Addr) (len cap : Nat) (v3 pc : Value) (es : List Ent) (l : Array Bool) (u : Nat → Value) (w : World) : Prop where
  grown : w00.grownBy w (some bk)
  cur : Cur w bk a len cap
  size : n0 ≤ w.heap.size
  three : l.getD 0 false = false → u 3 = v3
  own : l.getD 15 false = false → OwnE w base v3 es ∧ l.getD 16 false = false
  fact : ∀ k, k < 17 → l.getD k false = true → F9 n0 base v3 pc k (u (dst9 k)) w

variable {w00 : World} {n0 base bk : Nat} {a : Option Addr} {len cap : Nat} {v3 pc : Value} {es : List Ent} {l : Array Bool} {u : Nat → Value} {w : World}

theorem I9.step (h : I9 w00 n0 base bk a len cap v3 pc es l u w) (hl : l.size = 17) (hb : bk < base) (hbn : bk < n0) {k : Nat} (hk : k < 15) {v : Value} {w' : World} (hg : w.grownBy w' (some bk)) (hc : Cur w' bk a len cap) (hv : F9 n0 base v3 pc k v w') :
    I9 w00 n0 base bk a len cap v3 pc es (l.setIfInBounds k true) (upd u (31 + k) v) w' := by
  have hd : dst9 k = 31 + k := by unfold dst9; rw [if_neg (by omega)]
  refine ⟨grownBy_trans h.grown hg, hc, Nat.le_trans h.size hg.size, fun h0 => ?_, fun h15 => ?_, ?_⟩
  · rw [← h.three (listed_put (by omega) h0)]
    simp only [upd]
    rw [if_neg (by omega)]
  · obtain ⟨o1, o2⟩ := h.own (listed_put (by omega) h15)
    exact ⟨ownE_cur9 o1 hb hg, by rw [getD_other l (by omega)]; exact o2⟩
  · have := facts_put (dst := dst9) (dst9_inj k (by omega)) h.fact (fun j _ _ _ t => F9_grown hb hbn hg j t) hv
    rwa [hd] at this
theorem I9.alloc (h : I9 w00 n0 base bk a len cap v3 pc es l u w) (hl : l.size = 17) (hb : bk < base) (hbn : bk < n0) {k : Nat} (hk : k < 15) {v : Value} {o : Obj} (hv : F9 n0 base v3 pc k v (w.alloc o)) :
    I9 w00 n0 base bk a len cap v3 pc es (l.setIfInBounds k true) (upd u (31 + k) v) (w.alloc o) := h.step hl hb hbn hk (grownBy_alloc (grownBy_refl _ _) _) (cur_alloc h.cur _) hv
theorem I9.same (h : I9 w00 n0 base bk a len cap v3 pc es l u w) (hl : l.size = 17) (hb : bk < base) (hbn : bk < n0) {k : Nat} (hk : k < 15) {v : Value} (hv : F9 n0 base v3 pc k v w) :
    I9 w00 n0 base bk a len cap v3 pc es (l.setIfInBounds k true) (upd u (31 + k) v) w := h.step hl hb hbn hk (grownBy_refl _ _) h.cur hv

theorem eval_in {a0 : Act} {u : Nat → Value} {s : Nat} (hd : D9 s = true) (hs : s < a0.tmps.size) : (ovr D9 a0 u).eval (.tmp s) = u s := by
  show (ovr D9 a0 u).tmps.getD s undef = _
  rw [getD_at, ovr_at D9 a0 u s hs, hd]
  rfl
theorem eval_out {a0 : Act} {u : Nat → Value} {s : Nat} (hd : D9 s = false) (hs : s < a0.tmps.size) : (ovr D9 a0 u).eval (.tmp s) = a0.tmps.getD s undef := by
  show (ovr D9 a0 u).tmps.getD s undef = _
  rw [getD_at, ovr_at D9 a0 u s hs, hd]
  rfl
theorem put_in {a0 : Act} {o : Oper} {d : Nat} (ho : o.dst = some d) (hd : D9 d = true) (u : Nat → Value) (v : Value) : (ovr D9 a0 u).put o.dst v = ovr D9 a0 (upd u d v) := by
  rw [ho]
  exact ovr_put hd

theorem namesLen_snoc : ∀ (es : List Ent) (e : Ent), namesLen (es ++ [e]) = namesLen es + e.2.size
  | [], e => by simp [namesLen]
  | d :: es, e => by simp [namesLen, namesLen_snoc es e]; omega
theorem borne_snoc {es : List Ent} {e : Ent} (h : Borne es) (h1 : I64 e.1) (h2 : e.2.size ≤ 9223372036854775807) : Borne (es ++ [e]) := by
  intro k hk
  rcases Nat.lt_or_ge k es.length with h' | h'
  · have := h k h'
    rwa [show (es ++ [e]).getD k entD = es.getD k entD by simp [List.getD_eq_getElem?_getD, List.getElem?_append_left h']]
  · have : (es ++ [e]).getD k entD = e := by
      have e1 : k = es.length := by simp at hk; omega
      subst e1
      simp [List.getD_eq_getElem?_getD]
    rw [this]
    exact ⟨h1, h2⟩

set_option maxHeartbeats 4000000 in
theorem reg9 {id : Nat} {ops : Array Oper} {a0 : Act} {Q : Exit → Act → World → Prop} {W : World} {zs : List Int} (hg : ∀ o ∈ ops, o.guard = none) (hacyc : ∀ (k : Nat) (o : Oper), ops[k]? = some o → ∀ e ∈ o.after, e.on < k) (hn : ops.size = 17)
    (h0 : Has ops 0 31 (.move (.tmp 3)) [])
    (h1 : Has ops 1 32 (.buildSlice 24 4 #[(0, .const (.int .i64 (-1))), (1, .const (.int .i64 50)), (2, .const (.int .i64 99)), (3, .const (.int .i64 100))]) [])
    (h2 : Has ops 2 33 (.move (.tmp 0)) [])
    (h3 : Has ops 3 34 (.call { callee := .value (.func 52), args := #[.tmp 33, .const (.int .i64 4)], argTypes := #[74, 2] }) [2])
    (h4 : Has ops 4 35 (.indexAddr 24 (.tmp 32) (.tmp 34)) [1, 3])
    (h5 : Has ops 5 36 (.load 2 (.tmp 35)) [4])
    (h6 : Has ops 6 37 (.makeSlice 22 (.const (.int .i64 21)) (.const (.int .i64 21))) [])
    (h7 : Has ops 7 38 (.convert 22 9 (.tmp 37)) [6])
    (h8 : Has ops 8 39 (.buildSlice 140 4 #[(0, .const (.string ⟨#[]⟩)), (1, .const (.string ⟨#[120]⟩)), (2, .const (.string ⟨#[97]⟩)), (3, .tmp 38)]) [7])
    (h9 : Has ops 9 40 (.move (.tmp 0)) [])
    (h10 : Has ops 10 41 (.call { callee := .value (.func 52), args := #[.tmp 40, .const (.int .i64 4)], argTypes := #[74, 2] }) [9])
    (h11 : Has ops 11 42 (.indexAddr 140 (.tmp 39) (.tmp 41)) [8, 10])
    (h12 : Has ops 12 43 (.load 9 (.tmp 42)) [11])
    (h13 : Has ops 13 44 (.build 49 #[(0, .tmp 36), (1, .tmp 43)]) [5, 12])
    (h14 : Has ops 14 45 (.buildSlice 38 1 #[(0, .tmp 44)]) [13])
    (h15 : Has ops 15 46 (.call { callee := .builtin .append, args := #[.tmp 31, .tmp 45], argTypes := #[38, 38] }) [0, 14])
    (h16 : Has ops 16 3 (.assign (.tmp 46)) [0, 15])
    (sz : 46 < a0.tmps.size) (e0 : a0.tmps.getD 0 undef = .pointer (some ⟨bk, 0, none⟩)) (e3 : a0.tmps.getD 3 undef = v3)
    (hr : IsRow .u8 W a len cap zs) (hbk : W.heap.size ≤ bk) (hW : Below W.heap.size W w00) (lbk : bk < w00.heap.size)
    (G : w00.grownBy w (some bk)) (C : Cur w bk a len cap) (O : OwnE w w00.heap.size v3 es) (be : Borne es) (le : es.length ≤ 40) (ne : namesLen es ≤ 1000)
    (fin : ∀ u w', (∃ fs : List Ent, Borne fs ∧ fs.length ≤ 63 ∧ namesLen fs ≤ 65000 ∧ OwnE w' w00.heap.size (u 3) fs) → w00.grownBy w' (some bk) → Cur w' bk a len cap → Q .normal (ovr D9 a0 u) w') :
    (Code.region id ops true).wp Try.prog Q a0 w := by
  have stepB : ∀ {w' : World}, w00.grownBy w' (some bk) → Below W.heap.size W w' := fun hg => hW.grown hg hW.size (fun k e => by cases e; exact hbk)
  have hbn : bk < w.heap.size := Nat.lt_of_lt_of_le lbk G.size
  have hgw := G.size
  refine wp_region_facts (by kernel_rfl) D9 hg hacyc (I9 w00 w.heap.size w00.heap.size bk a len cap v3 (.pointer (some ⟨bk, 0, none⟩)) es) ?_ ?_ ?_
  · refine ⟨grownBy_drew G, C, Nat.le_refl _, fun _ => e3, fun _ => ⟨O, ?_⟩, fun k hk h => ?_⟩
    · rw [hn]; decide
    · rw [hn] at h
      simp [Array.getD, hk] at h
  · intro l u w' I hl
    obtain ⟨fs, f1, f2, f3, f4⟩ := I.fact 16 (by omega) (hl 16 (by omega))
    exact fin u w' ⟨fs, f1, f2, f3, f4⟩ I.grown I.cur
  · intro l u X k o I hl hlk ho hd
    rw [hn] at hl
    have hk : k < 17 := by rw [← hn]; exact (Array.getElem?_eq_some_iff.1 ho).1
    rcases (show k = 0 ∨ k = 1 ∨ k = 2 ∨ k = 3 ∨ k = 4 ∨ k = 5 ∨ k = 6 ∨ k = 7 ∨ k = 8 ∨ k = 9 ∨ k = 10 ∨ k = 11 ∨ k = 12 ∨ k = 13 ∨ k = 14 ∨ k = 15 ∨ k = 16 by omega) with rfl | rfl | rfl | rfl | rfl | rfl | rfl | rfl | rfl | rfl | rfl | rfl | rfl | rfl | rfl | rfl | rfl
    · obtain ⟨d, op, dep⟩ := has_at h0 ho hd
      have x := (eval_in (a0 := a0) (u := u) (s := 3) rfl (by omega)).trans (I.three hlk)
      exact wp_value (v := v3) (w' := X) (by simp [execOp, op, x]) ⟨_, put_in d rfl u _, I.same hl lbk hbn (by omega) rfl⟩
    · obtain ⟨d, op, dep⟩ := has_at h1 ho hd
      exact wp_value (by simp [execOp, op, Act.eval, run_ints4, Result.andThen]) ⟨_, put_in d rfl u _, I.alloc hl lbk hbn (by omega) ⟨X.heap.size, I.size, rfl, heap_alloc_new X _⟩⟩
    · obtain ⟨d, op, dep⟩ := has_at h2 ho hd
      have x := (eval_out (a0 := a0) (u := u) (s := 0) rfl (by omega)).trans e0
      exact wp_value (w' := X) (by simp [execOp, op, x]) ⟨_, put_in d rfl u _, I.same hl lbk hbn (by omega) rfl⟩
    · obtain ⟨d, op, dep⟩ := has_at h3 ho hd
      have x := (eval_in (a0 := a0) (u := u) (s := 33) rfl (by omega)).trans (I.fact 2 (by omega) (dep 2 (by simp)))
      refine wp_call (f := 52) (args := #[.pointer (some ⟨bk, 0, none⟩), .int .i64 4]) (by simp only [execOp, op]; go_simp; exact (getD_at _ _).symm.trans x) ?_
      refine (below_any 4 hr (stepB I.grown) hbk I.cur).mono ?_
      rintro e w1 ⟨y, y0, _, y1, rfl, g1, c1⟩
      obtain ⟨j, rfl⟩ := Int.eq_ofNat_of_zero_le y0
      have := y1 (by decide)
      exact ⟨_, rfl, _, put_in d rfl u _, I.step hl lbk hbn (by omega) g1 c1 ⟨j, by omega, rfl⟩⟩
    · obtain ⟨d, op, dep⟩ := has_at h4 ho hd
      obtain ⟨g, g1, g2, g3⟩ := I.fact 1 (by omega) (dep 1 (by simp))
      obtain ⟨j, j1, j2⟩ := I.fact 3 (by omega) (dep 3 (by simp))
      have x := (eval_in (a0 := a0) (u := u) (s := 32) rfl (by omega)).trans g2
      have y := (eval_in (a0 := a0) (u := u) (s := 34) rfl (by omega)).trans j2
      exact wp_value (w' := X) (by simp [execOp, op, x, y, run_ixI g j j1, Result.andThen]) ⟨_, put_in d rfl u _, I.same hl lbk hbn (by omega) ⟨g, j, g1, j1, rfl, g3⟩⟩
    · obtain ⟨d, op, dep⟩ := has_at h5 ho hd
      obtain ⟨g, j, g1, j1, g2, g3⟩ := I.fact 4 (by omega) (dep 4 (by simp))
      have x := (eval_in (a0 := a0) (u := u) (s := 35) rfl (by omega)).trans g2
      obtain ⟨z, z0, z1, zr⟩ := run_ldI g j j1 X g3
      exact wp_value (w' := X) (by simp [execOp, op, x, zr, Result.andThen]) ⟨_, put_in d rfl u _, I.same hl lbk hbn (by omega) ⟨z, z0, z1, rfl⟩⟩
    · obtain ⟨d, op, dep⟩ := has_at h6 ho hd
      exact wp_value (by simp [execOp, op, Act.eval, run_mk21, Result.andThen]) ⟨_, put_in d rfl u _, I.alloc hl lbk hbn (by omega) ⟨X.heap.size, I.size, rfl, heap_alloc_new X _⟩⟩
    · obtain ⟨d, op, dep⟩ := has_at h7 ho hd
      obtain ⟨g, g1, g2, g3⟩ := I.fact 6 (by omega) (dep 6 (by simp))
      have x := (eval_in (a0 := a0) (u := u) (s := 37) rfl (by omega)).trans g2
      obtain ⟨z, z0, zr⟩ := run_cv21 g X g3
      exact wp_value (w' := X) (by simp [execOp, op, x, zr, Result.andThen]) ⟨_, put_in d rfl u _, I.same hl lbk hbn (by omega) ⟨z, z0, rfl⟩⟩
    · obtain ⟨d, op, dep⟩ := has_at h8 ho hd
      obtain ⟨z, z0, z1⟩ := I.fact 7 (by omega) (dep 7 (by simp))
      have x := (eval_in (a0 := a0) (u := u) (s := 38) rfl (by omega)).trans z1
      have hrun := run_strs4 z X
      exact wp_value (w' := X.alloc (strs4 z)) (v := .slice (some ⟨X.heap.size, 0, none⟩) 4 4) (by simp [execOp, op, x, show ∀ v, (ovr D9 a0 u).eval (.const v) = v from fun _ => rfl, hrun, Result.andThen]) ⟨_, put_in d rfl u _, I.alloc hl lbk hbn (by omega) ⟨X.heap.size, z, I.size, z0, rfl, heap_alloc_new X _⟩⟩
    · obtain ⟨d, op, dep⟩ := has_at h9 ho hd
      have x := (eval_out (a0 := a0) (u := u) (s := 0) rfl (by omega)).trans e0
      exact wp_value (w' := X) (by simp [execOp, op, x]) ⟨_, put_in d rfl u _, I.same hl lbk hbn (by omega) rfl⟩
    · obtain ⟨d, op, dep⟩ := has_at h10 ho hd
      have x := (eval_in (a0 := a0) (u := u) (s := 40) rfl (by omega)).trans (I.fact 9 (by omega) (dep 9 (by simp)))
      refine wp_call (f := 52) (args := #[.pointer (some ⟨bk, 0, none⟩), .int .i64 4]) (by simp only [execOp, op]; go_simp; exact (getD_at _ _).symm.trans x) ?_
      refine (below_any 4 hr (stepB I.grown) hbk I.cur).mono ?_
      rintro e w1 ⟨y, y0, _, y1, rfl, g1, c1⟩
      obtain ⟨j, rfl⟩ := Int.eq_ofNat_of_zero_le y0
      have := y1 (by decide)
      exact ⟨_, rfl, _, put_in d rfl u _, I.step hl lbk hbn (by omega) g1 c1 ⟨j, by omega, rfl⟩⟩
    · obtain ⟨d, op, dep⟩ := has_at h11 ho hd
      obtain ⟨g, z, g1, z0, g2, g3⟩ := I.fact 8 (by omega) (dep 8 (by simp))
      obtain ⟨j, j1, j2⟩ := I.fact 10 (by omega) (dep 10 (by simp))
      have x := (eval_in (a0 := a0) (u := u) (s := 39) rfl (by omega)).trans g2
      have y := (eval_in (a0 := a0) (u := u) (s := 41) rfl (by omega)).trans j2
      exact wp_value (w' := X) (by simp [execOp, op, x, y, run_ixS g j j1, Result.andThen]) ⟨_, put_in d rfl u _, I.same hl lbk hbn (by omega) ⟨g, j, z, g1, j1, z0, rfl, g3⟩⟩
    · obtain ⟨d, op, dep⟩ := has_at h12 ho hd
      obtain ⟨g, j, z, g1, j1, z0, g2, g3⟩ := I.fact 11 (by omega) (dep 11 (by simp))
      have x := (eval_in (a0 := a0) (u := u) (s := 42) rfl (by omega)).trans g2
      obtain ⟨t, t0, tr⟩ := run_ldS g j j1 z z0 X g3
      exact wp_value (w' := X) (by simp [execOp, op, x, tr, Result.andThen]) ⟨_, put_in d rfl u _, I.same hl lbk hbn (by omega) ⟨t, t0, rfl⟩⟩
    · obtain ⟨d, op, dep⟩ := has_at h13 ho hd
      obtain ⟨z, z0, z1, z2⟩ := I.fact 5 (by omega) (dep 5 (by simp))
      obtain ⟨t, t0, t1⟩ := I.fact 12 (by omega) (dep 12 (by simp))
      have x := (eval_in (a0 := a0) (u := u) (s := 36) rfl (by omega)).trans z2
      have y := (eval_in (a0 := a0) (u := u) (s := 43) rfl (by omega)).trans t1
      have hrun := run_ent z t X
      exact wp_value (w' := X) (v := ev (z, t)) (by simp [execOp, op, x, y, hrun, Result.andThen]) ⟨_, put_in d rfl u _, I.same hl lbk hbn (by omega) ⟨z, t, ⟨z0, z1⟩, t0, rfl⟩⟩
    · obtain ⟨d, op, dep⟩ := has_at h14 ho hd
      obtain ⟨z, t, z1, t0, z2⟩ := I.fact 13 (by omega) (dep 13 (by simp))
      have x := (eval_in (a0 := a0) (u := u) (s := 44) rfl (by omega)).trans z2
      have hrun := run_ent1 z t X
      exact wp_value (w' := X.alloc (eb (z, t))) (v := .slice (some ⟨X.heap.size, 0, none⟩) 1 1) (by simp [execOp, op, x, hrun, Result.andThen]) ⟨_, put_in d rfl u _, I.alloc hl lbk hbn (by omega) ⟨X.heap.size, z, t, I.size, z1, t0, rfl, heap_alloc_new X _⟩⟩
    · obtain ⟨d, op, dep⟩ := has_at h15 ho hd
      obtain ⟨OX, l16⟩ := I.own hlk
      obtain ⟨g, z, t, g1, z1, t0, g2, g3⟩ := I.fact 14 (by omega) (dep 14 (by simp))
      have x := (eval_in (a0 := a0) (u := u) (s := 31) rfl (by omega)).trans (I.fact 0 (by omega) (dep 0 (by simp)))
      have y := (eval_in (a0 := a0) (u := u) (s := 45) rfl (by omega)).trans g2
      have l0 := dep 0 (by simp)
      have NEWS : ∀ j u, (cellsE [(z, t)])[j]? = some u → X.cell? ((⟨g, 0, none⟩ : Addr).add j) = some u := by
        intro j q hj
        rw [Addr.add_lit]
        simp only [World.cell?, g3, Nat.zero_add]
        simpa [cellsE] using hj
      have IX := World.ownsRow.lt OX
      have IW := World.ownsRow.lt O
      obtain ⟨i0, hi, hz0, hz1, hz2⟩ := info_parts infoE
      refine wp_append_own _ (.tmp 31) (.tmp 45) 38 op w00.heap.size 49 i0 (.agg #[.int .i64 0, .string ByteArray.empty]) 2 24 Try.underlying38 hi hz0 hz1 hz2 rfl (by decide) _ es.length (cellsE es) x OX ⟨g, 0, none⟩ 1 1 (cellsE [(z, t)]) y rfl NEWS (cellsE_one _) (by unfold maxLen; omega) (by omega) I.grown.size ?_
      intro v' w1 hown hgrow _
      have F15 : F9 w.heap.size w00.heap.size v3 (.pointer (some ⟨bk, 0, none⟩)) 15 v' w1 := by
        refine ⟨es ++ [(z, t)], borne_snoc be (show I64 z from ⟨by omega, by omega⟩) (show t.size ≤ 9223372036854775807 by omega), by simp; omega, (by rw [namesLen_snoc]; show _ + t.size ≤ _; omega), ?_⟩
        show World.ownsRow _ _ _ _ _ _ _
        rw [cellsE_append, List.length_append]
        exact hown
      refine ⟨_, put_in d rfl u _, ⟨grownBy_own I.grown hgrow IX, cur_own I.cur hgrow IX lbk, Nat.le_trans I.size hgrow.size, fun h => ?_, fun h => ?_, ?_⟩⟩
      · rw [getD_other l (by omega), l0] at h; cases h
      · rw [listed_ne (by omega)] at h; cases h
      · refine facts_put (dst := dst9) (k := 15) (dst9_inj 15 (by omega)) I.fact (fun j hj hne hlj t h => ?_) F15
        rcases Nat.lt_or_ge j 15 with h1 | h1
        · refine F9_kept (fun q q1 q2 => hgrow.block q q2 (fun e => ?_)) j h1 t h
          have := IW q e.symm
          omega
        · obtain rfl : j = 16 := by omega
          rw [l16] at hlj
          cases hlj
    · obtain ⟨d, op, dep⟩ := has_at h16 ho hd
      obtain ⟨fs, f1, f2, f3, f4⟩ := I.fact 15 (by omega) (dep 15 (by simp))
      have x := (eval_in (a0 := a0) (u := u) (s := 46) rfl (by omega))
      have l0 := dep 0 (by simp)
      have l15 := dep 15 (by simp)
      refine wp_value (w' := X) (v := u 46) (by simp [execOp, op, x]) ⟨_, put_in d rfl u _, ⟨I.grown, I.cur, I.size, fun h => ?_, fun h => ?_, ?_⟩⟩
      · rw [getD_other l (by omega), l0] at h; cases h
      · rw [getD_other l (by omega), l15] at h; cases h
      · exact facts_put (dst := dst9) (k := 16) (dst9_inj 16 (by omega)) I.fact (fun j _ _ _ t h => h) ⟨fs, f1, f2, f3, f4⟩
end Go.Proofs.Ytdogibjgogcdkab.draw
