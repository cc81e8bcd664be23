/-
  Chapter 8 as the program has it: two free chunks change places. Chapter 8 as the program has it: a box of free chunks, one put into it and the last taken out. Chapter 8 as the program has it: the last free chunk taken out of its box. Chapter 8 as the program has it: container/heap over free chunks.
-/
import Derived.Test.YthfhjgkpabkeaaaGreatFitI1
import Derived.Maps.AppendAt
namespace Go.Proofs.YthfhjgkpabkeaaaGreat.walks
open Go.RowKit rows heads words region
set_option maxRecDepth 100000
set_option linter.unusedVariables false
set_option linter.unusedSimpArgs false

theorem cellsF_set : ∀ (R : List Run) (i : Nat) (x : Run), ((cellsF R).set (i * 2) (.int .i64 (x.1 : Int))).set (i * 2 + 1) (.int .i64 (x.2 : Int)) = cellsF (R.set i x)
  | [], i, x => by simp [cellsF]
  | r :: R, 0, x => by simp [cellsF]
  | r :: R, i + 1, x => by
    have ih := cellsF_set R i x
    have e1 : (i + 1) * 2 = i * 2 + 1 + 1 := by omega
    simp only [cellsF, e1, List.set_cons_succ, ih]
theorem ownF_n {w : World} {base : Nat} {a : Option Addr} {n c : Nat} {R : List Run} (h : OwnF w base (.slice a n c) R) : n = R.length := by
  obtain ⟨a', c', e⟩ := ownF_slice h
  injection e
theorem block_setF {w : World} {p : Addr} {v : Value} {k : Nat} (h : k ≠ p.block) : (w.setCell p v).heap[k]? = w.heap[k]? := by
  simp [World.setCell, Array.getElem?_modify, Ne.symm h]
theorem ownF_put {w : World} {base g n c : Nat} {R : List Run} (h : OwnF w base (.slice (some ⟨g, 0, none⟩) n c) R) (i : Nat) (x : Run) :
    OwnF ((w.setCell ⟨g, i * 2, none⟩ (.int .i64 (x.1 : Int))).setCell ⟨g, i * 2 + 1, none⟩ (.int .i64 (x.2 : Int))) base (.slice (some ⟨g, 0, none⟩) n c) (R.set i x) ∧
    Below base w ((w.setCell ⟨g, i * 2, none⟩ (.int .i64 (x.1 : Int))).setCell ⟨g, i * 2 + 1, none⟩ (.int .i64 (x.2 : Int))) ∧
    ∀ k, k ≠ g → ((w.setCell ⟨g, i * 2, none⟩ (.int .i64 (x.1 : Int))).setCell ⟨g, i * 2 + 1, none⟩ (.int .i64 (x.2 : Int))).heap[k]? = w.heap[k]? := by
  obtain rfl := ownF_n h
  have h1 := (World.ownsRow.stored h (i * 2) (.int .i64 (x.1 : Int))).1
  have h2 := (World.ownsRow.stored h1 (i * 2 + 1) (.int .i64 (x.2 : Int))).1
  rw [cellsF_set] at h2
  have hg := (ownF_lt h g rfl).1
  refine ⟨?_, ((Below.refl base w).setCell (p := ⟨g, i * 2, none⟩) hg _).setCell (p := ⟨g, i * 2 + 1, none⟩) hg _, fun k hk => (block_setF (p := ⟨g, i * 2 + 1, none⟩) hk).trans (block_setF (p := ⟨g, i * 2, none⟩) hk)⟩
  unfold OwnF
  rw [List.length_set]
  exact h2
def dSw (k : Nat) : Nat := if k = 13 then 100 else if k = 14 then 19 else if k = 15 then 101 else 6 + k
theorem dSw_inj : ∀ k, k < 16 → ∀ j, j < 16 → dSw j = dSw k → j = k := fun k hk j hj e => by unfold dSw at e; split at e <;> split at e <;> (try split at e) <;> (try split at e) <;> (try split at e) <;> (try split at e) <;> omega
def DSw (s : Nat) : Bool := decide (6 ≤ s) && decide (s ≤ 19)
def FSw (g n c i j : Nat) (x y : Run) (k : Nat) (t : Value) : Prop :=
  match k with
  | 0 => t = .slice (some ⟨g, 0, none⟩) n c
  | 1 => t = .int .i64 (i : Int)
  | 2 => t = .slice (some ⟨g, 0, none⟩) n c
  | 3 => t = .int .i64 (j : Int)
  | 4 => t = .slice (some ⟨g, 0, none⟩) n c
  | 5 => t = .int .i64 (j : Int)
  | 6 => t = .pointer (some ⟨g, j * 2, none⟩)
  | 7 => t = .agg #[.int .i64 (y.1 : Int), .int .i64 (y.2 : Int)]
  | 8 => t = .slice (some ⟨g, 0, none⟩) n c
  | 9 => t = .int .i64 (i : Int)
  | 10 => t = .pointer (some ⟨g, i * 2, none⟩)
  | 11 => t = .agg #[.int .i64 (x.1 : Int), .int .i64 (x.2 : Int)]
  | 12 => t = .pointer (some ⟨g, i * 2, none⟩)
  | 13 => True
  | 14 => t = .pointer (some ⟨g, j * 2, none⟩)
  | 15 => True
  | _ => False
/-- What holds while two change places. -/
structure SwI (w : World) (base g n c i j : Nat) (R : List Run) (x y : Run) (l : Array Bool) (u : Nat → Value) (W : World) : Prop where
  facts : ∀ k, k < 16 → l.getD k false = true → FSw g n c i j x y k (u (dSw k))
  below : Below base w W
  same : ∀ k, k ≠ g → W.heap[k]? = w.heap[k]?
  first : l.getD 13 false = false → OwnF W base (.slice (some ⟨g, 0, none⟩) n c) R
  half : l.getD 13 false = true → l.getD 15 false = false → OwnF W base (.slice (some ⟨g, 0, none⟩) n c) (R.set i y)
  last : l.getD 15 false = true → OwnF W base (.slice (some ⟨g, 0, none⟩) n c) ((R.set i y).set j x)
  ahead : l.getD 13 false = true → l.getD 7 false = true ∧ l.getD 11 false = true
  chain : l.getD 15 false = true → l.getD 13 false = true
theorem set_mono {l : Array Bool} {k q : Nat} (hk : k < l.size) (h : l.getD q false = true) : (l.setIfInBounds k true).getD q false = true := by
  by_cases e : k = q
  · subst e; exact listed_ne hk
  · rw [getD_other l e]; exact h
theorem SwI.value {w : World} {base g n c i j : Nat} {R : List Run} {x y : Run} {l : Array Bool} {u : Nat → Value} {W : World} (h : SwI w base g n c i j R x y l u W) {k : Nat} (hl : k < l.size) (hk : k < 16) (h1 : k ≠ 13) (h2 : k ≠ 15) {v : Value} (hv : FSw g n c i j x y k v) : SwI w base g n c i j R x y (l.setIfInBounds k true) (upd u (dSw k) v) W := by
  have e13 : (l.setIfInBounds k true).getD 13 false = l.getD 13 false := getD_other l h1
  have e15 : (l.setIfInBounds k true).getD 15 false = l.getD 15 false := getD_other l h2
  refine ⟨facts_put (n := 16) (F := fun k t _ => FSw g n c i j x y k t) (w := W) (w' := W) (dSw_inj k hk) h.facts (fun _ _ _ _ _ z => z) hv, h.below, h.same, fun e => h.first (e13 ▸ e), fun e e' => h.half (e13 ▸ e) (e15 ▸ e'), fun e => h.last (e15 ▸ e), fun e => ?_, fun e => ?_⟩
  · obtain ⟨a, b⟩ := h.ahead (e13 ▸ e)
    exact ⟨set_mono hl a, set_mono hl b⟩
  · rw [e13]; exact h.chain (e15 ▸ e)
theorem SwI.store1 {w : World} {base g n c i j : Nat} {R : List Run} {x y : Run} {l : Array Bool} {u : Nat → Value} {W W' : World} (h : SwI w base g n c i j R x y l u W) (hl : l.size = 16) (h13 : l.getD 13 false = false) (h7 : l.getD 7 false = true) (h11 : l.getD 11 false = true) (hb : Below base W W') (hs : ∀ k, k ≠ g → W'.heap[k]? = W.heap[k]?) (ho : OwnF W' base (.slice (some ⟨g, 0, none⟩) n c) (R.set i y)) : SwI w base g n c i j R x y (l.setIfInBounds 13 true) u W' := by
  have h15 : l.getD 15 false = false := by
    cases e : l.getD 15 false
    · rfl
    · rw [h.chain e] at h13; cases h13
  have e15 : (l.setIfInBounds 13 true).getD 15 false = l.getD 15 false := getD_other l (by decide)
  have e13 : (l.setIfInBounds 13 true).getD 13 false = true := listed_ne (by omega)
  refine ⟨fun k hk e => ?_, h.below.trans hb, fun k hk => (hs k hk).trans (h.same k hk), (fun e => by rw [e13] at e; cases e), fun _ _ => ho, (fun e => by rw [e15, h15] at e; cases e), fun _ => ⟨set_mono (by omega) h7, set_mono (by omega) h11⟩, fun _ => e13⟩
  by_cases e1 : k = 13
  · subst e1; trivial
  · rw [getD_other l (Ne.symm e1)] at e; exact h.facts k hk e
theorem SwI.store2 {w : World} {base g n c i j : Nat} {R : List Run} {x y : Run} {l : Array Bool} {u : Nat → Value} {W W' : World} (h : SwI w base g n c i j R x y l u W) (hl : l.size = 16) (h13 : l.getD 13 false = true) (hb : Below base W W') (hs : ∀ k, k ≠ g → W'.heap[k]? = W.heap[k]?) (ho : OwnF W' base (.slice (some ⟨g, 0, none⟩) n c) ((R.set i y).set j x)) : SwI w base g n c i j R x y (l.setIfInBounds 15 true) u W' := by
  have e13 : (l.setIfInBounds 15 true).getD 13 false = l.getD 13 false := getD_other l (by decide)
  have e15 : (l.setIfInBounds 15 true).getD 15 false = true := listed_ne (by omega)
  refine ⟨fun k hk e => ?_, h.below.trans hb, fun k hk => (hs k hk).trans (h.same k hk), (fun e => by rw [e13, h13] at e; cases e), (fun _ e => by rw [e15] at e; cases e), fun _ => ho, fun _ => ⟨set_mono (by omega) (h.ahead h13).1, set_mono (by omega) (h.ahead h13).2⟩, fun _ => by rw [e13]; exact h13⟩
  by_cases e1 : k = 15
  · subst e1; trivial
  · rw [getD_other l (Ne.symm e1)] at e; exact h.facts k hk e
theorem ownF_two {w : World} {base g n c : Nat} {R : List Run} (h : OwnF w base (.slice (some ⟨g, 0, none⟩) n c) R) {i : Nat} (hi : i < R.length) : (w.cell? ⟨g, i * 2, none⟩ = some (.int .i64 ((rd R i).1 : Int)) ∧ w.cell? ⟨g, i * 2 + 1, none⟩ = some (.int .i64 ((rd R i).2 : Int))) ∧ w.frozen? ⟨g, i * 2, none⟩ = false ∧ w.frozen? ⟨g, i * 2 + 1, none⟩ = false := by
  obtain rfl := ownF_n h
  obtain ⟨c0, c1⟩ := cellsF_get R i hi
  exact ⟨⟨(World.ownsRow.cellAt h (i * 2) (by omega)).trans c0, (World.ownsRow.cellAt h (i * 2 + 1) (by omega)).trans c1⟩, World.ownsRow.frozenAt h _, World.ownsRow.frozenAt h _⟩
set_option maxHeartbeats 8000000 in
theorem swap_any {w : World} {base g c : Nat} {R : List Run} (h : OwnF w base (.slice (some ⟨g, 0, none⟩) R.length c) R) {i j : Nat} (hi : i < R.length) (hj : j < R.length) (hl : R.length ≤ 1048576) :
    Calls Tryz.prog 181 #[.slice (some ⟨g, 0, none⟩) R.length c, .int .i64 (i : Int), .int .i64 (j : Int)] w fun e w' => e = .returned (.tuple #[]) ∧ OwnF w' base (.slice (some ⟨g, 0, none⟩) R.length c) (swp R i j) ∧ Below base w w' ∧ ∀ k, k ≠ g → w'.heap[k]? = w.heap[k]? := by
  obtain ⟨n, hn⟩ : ∃ n, R.length = n := ⟨_, rfl⟩
  have HO : Hid (OwnF w.drew base (.slice (some ⟨g, 0, none⟩) n c) R) := by
    show OwnF _ _ _ _
    rw [← hn]
    exact ownF_below h (Below.refl _ _).drew
  have hil : (i : Int) < (n : Int) := by omega
  have hjl : (j : Int) < (n : Int) := by omega
  have HI : Hid _ := And.intro hi hj
  rw [hn] at hi hj hl
  rw [hn]
  have HN : Hid _ := hn
  clear h hn
  go_enter Tryz.func181, Tryz.ntmps181
  go_upto_region 0 with fail
  generalize hA0 : (Act.mk _ []) = A0
  have e0 : A0.tmps.getD 0 undef = .slice (some ⟨g, 0, none⟩) n c := by rw [← hA0]; rfl
  have e1 : A0.tmps.getD 1 undef = .int .i64 (i : Int) := by rw [← hA0]; rfl
  have e2 : A0.tmps.getD 2 undef = .int .i64 (j : Int) := by rw [← hA0]; rfl
  have sz : A0.tmps.size = 20 := by rw [← hA0]; rfl
  have start : SwI w base g n c i j R (rd R i) (rd R j) (Array.replicate 16 false) (fun s => A0.tmps.getD s undef) w.drew := by
    have z : ∀ k, (Array.replicate 16 false).getD k false = false := fun k => by
      rw [Array.getD_eq_getD_getElem?, Array.getElem?_replicate]; split <;> rfl
    refine ⟨(fun k _ e => by rw [z] at e; cases e), (Below.refl _ _).drew, fun _ _ => rfl, fun _ => HO.out, (fun e => by rw [z] at e; cases e), (fun e => by rw [z] at e; cases e), (fun e => by rw [z] at e; cases e), (fun e => by rw [z] at e; cases e)⟩
  refine wp_region_bind (by kernel_rfl) DSw (by simp) ?_ (SwI w base g n c i j R (rd R i) (rd R j)) start ?_ ?_
  · intro k o ho
    have hk : k < 16 := (Array.getElem?_eq_some_iff.1 ho).1
    rcases (show k = 0 ∨ k = 1 ∨ k = 2 ∨ k = 3 ∨ k = 4 ∨ k = 5 ∨ k = 6 ∨ k = 7 ∨ k = 8 ∨ k = 9 ∨ k = 10 ∨ k = 11 ∨ k = 12 ∨ k = 13 ∨ k = 14 ∨ k = 15 by omega) with rfl | rfl | rfl | rfl | rfl | rfl | rfl | rfl | rfl | rfl | rfl | rfl | rfl | rfl | rfl | rfl <;> (obtain rfl := Option.some.inj ho; simp [Region.binds])
  · intro l u W hI hA
    have HOF : Hid _ := hI.last (hA 15 (by simp))
    have HBF : Hid _ := And.intro hI.below hI.same
    clear hI hA start HO
    subst hA0
    simp [ovr, DSw, List.range, List.range.loop]
    go_wp2
    exact bodyPost_end (results_none rfl _ _ _) rfl ⟨rfl, HOF.out, HBF.out⟩
  · intro l u W k o hI hl hlk ho hd
    have hk : k < 16 := (Array.getElem?_eq_some_iff.1 ho).1
    have hl' : l.size = 16 := hl
    have ev : ∀ s, DSw s = true → s < 20 → (ovr DSw A0 u).tmps[s]?.getD undef = u s := fun s h1 h2 => (getD_at _ _).symm.trans (eval_in h1 (by omega))
    have o0 : (ovr DSw A0 u).tmps[0]?.getD undef = _ := (getD_at _ _).symm.trans ((eval_out (D := DSw) (a0 := A0) (u := u) (s := 0) rfl (by omega)).trans e0)
    have o1 : (ovr DSw A0 u).tmps[1]?.getD undef = _ := (getD_at _ _).symm.trans ((eval_out (D := DSw) (a0 := A0) (u := u) (s := 1) rfl (by omega)).trans e1)
    have o2 : (ovr DSw A0 u).tmps[2]?.getD undef = _ := (getD_at _ _).symm.trans ((eval_out (D := DSw) (a0 := A0) (u := u) (s := 2) rfl (by omega)).trans e2)
    rcases (show k = 0 ∨ k = 1 ∨ k = 2 ∨ k = 3 ∨ k = 4 ∨ k = 5 ∨ k = 6 ∨ k = 7 ∨ k = 8 ∨ k = 9 ∨ k = 10 ∨ k = 11 ∨ k = 12 ∨ k = 13 ∨ k = 14 ∨ k = 15 by omega) with rfl | rfl | rfl | rfl | rfl | rfl | rfl | rfl | rfl | rfl | rfl | rfl | rfl | rfl | rfl | rfl
    all_goals obtain rfl := Option.some.inj ho
    · refine wp_value (v := .slice (some ⟨g, 0, none⟩) n c) ?_ ⟨_, put_in (d := 6) rfl rfl u _, hI.value (by omega) (by decide) (by decide) (by decide) rfl⟩
      simp only [execOp]
      go_simp
      try go_num
    · refine wp_value (v := .int .i64 (i : Int)) ?_ ⟨_, put_in (d := 7) rfl rfl u _, hI.value (by omega) (by decide) (by decide) (by decide) rfl⟩
      simp only [execOp]
      go_simp
      try go_num
    · refine wp_value (v := .slice (some ⟨g, 0, none⟩) n c) ?_ ⟨_, put_in (d := 8) rfl rfl u _, hI.value (by omega) (by decide) (by decide) (by decide) rfl⟩
      simp only [execOp]
      go_simp
      try go_num
    · refine wp_value (v := .int .i64 (j : Int)) ?_ ⟨_, put_in (d := 9) rfl rfl u _, hI.value (by omega) (by decide) (by decide) (by decide) rfl⟩
      simp only [execOp]
      go_simp
      try go_num
    · refine wp_value (v := .slice (some ⟨g, 0, none⟩) n c) ?_ ⟨_, put_in (d := 10) rfl rfl u _, hI.value (by omega) (by decide) (by decide) (by decide) rfl⟩
      simp only [execOp]
      go_simp
      try go_num
    · refine wp_value (v := .int .i64 (j : Int)) ?_ ⟨_, put_in (d := 11) rfl rfl u _, hI.value (by omega) (by decide) (by decide) (by decide) rfl⟩
      simp only [execOp]
      go_simp
      try go_num
    · have x4 := (ev 10 rfl (by decide)).trans (hI.facts 4 (by decide) (hd ⟨4, .data⟩ (by simp) (by simp [Region.binds])))
      have x5 := (ev 11 rfl (by decide)).trans (hI.facts 5 (by decide) (hd ⟨5, .data⟩ (by simp) (by simp [Region.binds])))
      refine wp_value (v := .pointer (some ⟨g, j * 2, none⟩)) ?_ ⟨_, put_in (d := 12) rfl rfl u _, hI.value (by omega) (by decide) (by decide) (by decide) rfl⟩
      simp only [execOp]
      go_simp
      try go_num
    · have x6 := (ev 12 rfl (by decide)).trans (hI.facts 6 (by decide) (hd ⟨6, .data⟩ (by simp) (by simp [Region.binds])))
      have h13 : l.getD 13 false = false := by
        cases e : l.getD 13 false
        · rfl
        · rw [(hI.ahead e).1] at hlk; cases hlk
      obtain ⟨⟨c0, c1⟩, _⟩ := ownF_two (hI.first h13) HI.out.2
      refine wp_value (v := .agg #[.int .i64 ((rd R j).1 : Int), .int .i64 ((rd R j).2 : Int)]) ?_ ⟨_, put_in (d := 13) rfl rfl u _, hI.value (by omega) (by decide) (by decide) (by decide) rfl⟩
      simp only [execOp]
      go_simp
    · refine wp_value (v := .slice (some ⟨g, 0, none⟩) n c) ?_ ⟨_, put_in (d := 14) rfl rfl u _, hI.value (by omega) (by decide) (by decide) (by decide) rfl⟩
      simp only [execOp]
      go_simp
      try go_num
    · refine wp_value (v := .int .i64 (i : Int)) ?_ ⟨_, put_in (d := 15) rfl rfl u _, hI.value (by omega) (by decide) (by decide) (by decide) rfl⟩
      simp only [execOp]
      go_simp
      try go_num
    · have x8 := (ev 14 rfl (by decide)).trans (hI.facts 8 (by decide) (hd ⟨8, .data⟩ (by simp) (by simp [Region.binds])))
      have x9 := (ev 15 rfl (by decide)).trans (hI.facts 9 (by decide) (hd ⟨9, .data⟩ (by simp) (by simp [Region.binds])))
      refine wp_value (v := .pointer (some ⟨g, i * 2, none⟩)) ?_ ⟨_, put_in (d := 16) rfl rfl u _, hI.value (by omega) (by decide) (by decide) (by decide) rfl⟩
      simp only [execOp]
      go_simp
      try go_num
    · have x10 := (ev 16 rfl (by decide)).trans (hI.facts 10 (by decide) (hd ⟨10, .data⟩ (by simp) (by simp [Region.binds])))
      have h13 : l.getD 13 false = false := by
        cases e : l.getD 13 false
        · rfl
        · rw [(hI.ahead e).2] at hlk; cases hlk
      obtain ⟨⟨c0, c1⟩, _⟩ := ownF_two (hI.first h13) HI.out.1
      refine wp_value (v := .agg #[.int .i64 ((rd R i).1 : Int), .int .i64 ((rd R i).2 : Int)]) ?_ ⟨_, put_in (d := 17) rfl rfl u _, hI.value (by omega) (by decide) (by decide) (by decide) rfl⟩
      simp only [execOp]
      go_simp
    · have x0 := (ev 6 rfl (by decide)).trans (hI.facts 0 (by decide) (hd ⟨0, .data⟩ (by simp) (by simp [Region.binds])))
      have x1 := (ev 7 rfl (by decide)).trans (hI.facts 1 (by decide) (hd ⟨1, .data⟩ (by simp) (by simp [Region.binds])))
      refine wp_value (v := .pointer (some ⟨g, i * 2, none⟩)) ?_ ⟨_, put_in (d := 18) rfl rfl u _, hI.value (by omega) (by decide) (by decide) (by decide) rfl⟩
      simp only [execOp]
      go_simp
      try go_num
    · have x12 := (ev 18 rfl (by decide)).trans (hI.facts 12 (by decide) (hd ⟨12, .data⟩ (by simp) (by simp [Region.binds])))
      have x7 := (ev 13 rfl (by decide)).trans (hI.facts 7 (by decide) (hd ⟨7, .data⟩ (by simp) (by simp [Region.binds])))
      have h7 := hd ⟨7, .data⟩ (by simp) (by simp [Region.binds])
      have h11 := hd ⟨11, .phase⟩ (by simp) (by simp [Region.binds])
      obtain ⟨P1, P2, P3⟩ := ownF_put (hI.first hlk) i (rd R j)
      obtain ⟨⟨c0, c1⟩, f0, f1⟩ := ownF_two (hI.first hlk) HI.out.1
      refine wp_skip' (w' := (W.setCell ⟨g, i * 2, none⟩ (.int .i64 ((rd R j).1 : Int))).setCell ⟨g, i * 2 + 1, none⟩ (.int .i64 ((rd R j).2 : Int))) ?_ ⟨u, put_no rfl u undef, hI.store1 hl' hlk h7 h11 P2 P3 P1⟩
      simp only [execOp]
      go_simp
    · have x2 := (ev 8 rfl (by decide)).trans (hI.facts 2 (by decide) (hd ⟨2, .data⟩ (by simp) (by simp [Region.binds])))
      have x3 := (ev 9 rfl (by decide)).trans (hI.facts 3 (by decide) (hd ⟨3, .data⟩ (by simp) (by simp [Region.binds])))
      refine wp_value (v := .pointer (some ⟨g, j * 2, none⟩)) ?_ ⟨_, put_in (d := 19) rfl rfl u _, hI.value (by omega) (by decide) (by decide) (by decide) rfl⟩
      simp only [execOp]
      go_simp
      try go_num
    · have x14 := (ev 19 rfl (by decide)).trans (hI.facts 14 (by decide) (hd ⟨14, .data⟩ (by simp) (by simp [Region.binds])))
      have x11 := (ev 17 rfl (by decide)).trans (hI.facts 11 (by decide) (hd ⟨11, .data⟩ (by simp) (by simp [Region.binds])))
      have h13 := hd ⟨13, .chain⟩ (by simp) (by simp [Region.binds])
      obtain ⟨P1, P2, P3⟩ := ownF_put (hI.half h13 hlk) j (rd R i)
      obtain ⟨⟨c0, c1⟩, f0, f1⟩ := ownF_two (hI.half h13 hlk) (by rw [List.length_set]; exact HI.out.2)
      refine wp_skip' (w' := (W.setCell ⟨g, j * 2, none⟩ (.int .i64 ((rd R i).1 : Int))).setCell ⟨g, j * 2 + 1, none⟩ (.int .i64 ((rd R i).2 : Int))) ?_ ⟨u, put_no rfl u undef, hI.store2 hl' h13 P2 P3 P1⟩
      simp only [execOp]
      go_simp
end Go.Proofs.YthfhjgkpabkeaaaGreat.walks
namespace Go.Proofs.YthfhjgkpabkeaaaGreat.walks
open Go.RowKit rows heads words region
set_option maxRecDepth 100000
set_option linter.unusedVariables false
set_option linter.unusedSimpArgs false

theorem mLen {w : World} {P : Nat} {v : Value} (hz : w.cell? ⟨P, 0, none⟩ = some v) (fuel : Nat) : (method (fuel + 1) 134 (.pointer (some ⟨P, 0, none⟩)) "Len").run Tryz.prog w = .ok (126, v) w := by
  obtain ⟨m, hm, hp, hf⟩ : ∃ m : Method, Array.find? (fun x => x.name == "Len") Tryz.t134.methods = some m ∧ m.path = #[] ∧ m.func = some (126, false) := ⟨Tryz.t134.methods[0]'(by decide), by kernel_rfl, rfl, rfl⟩
  have hs : ∀ nm, (Builtin.ssaWrapNilChk_ #[134] 134 #[.pointer (some ⟨P, 0, none⟩), strVal "", strVal nm]).run Tryz.prog w = .ok (.pointer (some ⟨P, 0, none⟩)) w := fun nm => by kernel_rfl
  unfold method
  go_simp
  unfold receiverAt follow Place.get
  go_simp
theorem mLess {w : World} {P : Nat} {v : Value} (hz : w.cell? ⟨P, 0, none⟩ = some v) (fuel : Nat) : (method (fuel + 1) 134 (.pointer (some ⟨P, 0, none⟩)) "Less").run Tryz.prog w = .ok (180, v) w := by
  obtain ⟨m, hm, hp, hf⟩ : ∃ m : Method, Array.find? (fun x => x.name == "Less") Tryz.t134.methods = some m ∧ m.path = #[] ∧ m.func = some (180, false) := ⟨Tryz.t134.methods[1]'(by decide), by kernel_rfl, rfl, rfl⟩
  have hs : ∀ nm, (Builtin.ssaWrapNilChk_ #[134] 134 #[.pointer (some ⟨P, 0, none⟩), strVal "", strVal nm]).run Tryz.prog w = .ok (.pointer (some ⟨P, 0, none⟩)) w := fun nm => by kernel_rfl
  unfold method
  go_simp
  unfold receiverAt follow Place.get
  go_simp
theorem mPop {w : World} {P : Nat} (fuel : Nat) : (method (fuel + 1) 134 (.pointer (some ⟨P, 0, none⟩)) "Pop").run Tryz.prog w = .ok (183, .pointer (some ⟨P, 0, none⟩)) w := by
  kernel_rfl
theorem mPush {w : World} {P : Nat} (fuel : Nat) : (method (fuel + 1) 134 (.pointer (some ⟨P, 0, none⟩)) "Push").run Tryz.prog w = .ok (184, .pointer (some ⟨P, 0, none⟩)) w := by
  kernel_rfl
theorem mSwap {w : World} {P : Nat} {v : Value} (hz : w.cell? ⟨P, 0, none⟩ = some v) (fuel : Nat) : (method (fuel + 1) 134 (.pointer (some ⟨P, 0, none⟩)) "Swap").run Tryz.prog w = .ok (181, v) w := by
  obtain ⟨m, hm, hp, hf⟩ : ∃ m : Method, Array.find? (fun x => x.name == "Swap") Tryz.t134.methods = some m ∧ m.path = #[] ∧ m.func = some (181, false) := ⟨Tryz.t134.methods[4]'(by decide), by kernel_rfl, rfl, rfl⟩
  have hs : ∀ nm, (Builtin.ssaWrapNilChk_ #[134] 134 #[.pointer (some ⟨P, 0, none⟩), strVal "", strVal nm]).run Tryz.prog w = .ok (.pointer (some ⟨P, 0, none⟩)) w := fun nm => by kernel_rfl
  unfold method
  go_simp
  unfold receiverAt follow Place.get
  go_simp
theorem asF (v : Value) (w : World) : (Instr.typeAssert (.iface 81 v) 20 81 false).run Tryz.prog w = .ok v w := by kernel_rfl
/-- A box that holds a slice. -/
def Box (w : World) (P : Nat) (v : Value) : Prop := w.heap[P]? = some (.cells #[v] 132 (0, 0))
theorem box_cell {w : World} {P : Nat} {v : Value} (h : Box w P v) : w.cell? ⟨P, 0, none⟩ = some v ∧ w.frozen? ⟨P, 0, none⟩ = false := by
  unfold Box at h
  constructor
  · simp [World.cell?, h]
  · simp [World.frozen?, h]
theorem box_set {w : World} {P : Nat} {v v' : Value} (h : Box w P v) : Box (w.setCell ⟨P, 0, none⟩ v') P v' := by
  have h' : w.heap[P]? = some (.cells #[v] 132 (0, 0)) := h
  have hl := lt_of_block h'
  unfold Box
  simp [World.setCell, Array.getElem?_modify, h']
theorem block_set {w : World} {p : Addr} {v : Value} {k : Nat} (h : k ≠ p.block) : (w.setCell p v).heap[k]? = w.heap[k]? := by
  simp [World.setCell, Array.getElem?_modify, Ne.symm h]
/-- Only the box, one block beside it and what is new are changed. -/
structure Fr (P : Nat) (b : Option Nat) (w w' : World) : Prop where
  os : w'.os = w.os
  tape : w'.tape = w.tape
  output : w'.output = w.output
  size : w.heap.size ≤ w'.heap.size
  block : ∀ k, k < w.heap.size → k ≠ P → b ≠ some k → w'.heap[k]? = w.heap[k]?
def dPu (k : Nat) : Nat := if k = 9 then 100 else 4 + k
theorem dPu_inj : ∀ k, k < 10 → ∀ j, j < 10 → dPu j = dPu k → j = k := fun k hk j hj e => by unfold dPu at e; split at e <;> split at e <;> omega
def DPu (s : Nat) : Bool := decide (4 ≤ s) && decide (s ≤ 12)
def FPu (P : Nat) (a : Option Addr) (n c : Nat) (x : Run) (k : Nat) (t : Value) : Prop :=
  match k with
  | 0 => t = .pointer (some ⟨P, 0, none⟩)
  | 1 => t = .pointer (some ⟨P, 0, none⟩)
  | 2 => t = .pointer (some ⟨P, 0, none⟩)
  | 3 => t = .slice a n c
  | 4 => t = .iface 81 (.agg #[.int .i64 (x.1 : Int), .int .i64 (x.2 : Int)])
  | 5 => t = .agg #[.int .i64 (x.1 : Int), .int .i64 (x.2 : Int)]
  | 6 => True
  | 7 => True
  | 8 => t = .pointer (some ⟨P, 0, none⟩)
  | 9 => True
  | _ => False
theorem set_monoP {l : Array Bool} {k q : Nat} (hk : k < l.size) (h : l.getD q false = true) : (l.setIfInBounds k true).getD q false = true := set_mono hk h
/-- What is so behind the append. -/
structure PuA (w W : World) (base P : Nat) (a : Option Addr) (n c : Nat) (R : List Run) (x : Run) (v' : Value) : Prop where
  own : OwnF W base v' (R ++ [x])
  at' : v'.ownBlock = (Value.slice a n c).ownBlock ∨ ∃ k, v'.ownBlock = some k ∧ w.heap.size ≤ k
  fr : Fr P (Value.slice a n c).ownBlock w W
/-- What holds while one is put into the box. -/
structure PuI (w : World) (base P : Nat) (a : Option Addr) (n c : Nat) (R : List Run) (x : Run) (l : Array Bool) (u : Nat → Value) (W : World) : Prop where
  facts : ∀ k, k < 10 → l.getD k false = true → FPu P a n c x k (u (dPu k))
  lit : l.getD 6 false = true → l.getD 7 false = false → ∃ b, u 10 = .slice (some ⟨b, 0, none⟩) 1 1 ∧ W.heap[b]? = some (.cells #[.int .i64 (x.1 : Int), .int .i64 (x.2 : Int)] 81 (0, 0))
  first : l.getD 7 false = false → Below w.heap.size w W
  box : l.getD 9 false = false → Box W P (.slice a n c)
  half : l.getD 7 false = true → l.getD 9 false = false → PuA w W base P a n c R x (u 11)
  last : l.getD 9 false = true → ∃ v', PuA w W base P a n c R x v' ∧ Box W P v'
  ahead : l.getD 7 false = true → l.getD 6 false = true
  load : l.getD 7 false = true → l.getD 3 false = true
  chain : l.getD 9 false = true → l.getD 7 false = true
theorem PuI.value {w : World} {base P : Nat} {a : Option Addr} {n c : Nat} {R : List Run} {x : Run} {l : Array Bool} {u : Nat → Value} {W : World} (h : PuI w base P a n c R x l u W) {k : Nat} (hl : k < l.size) (hk : k < 10) (h6 : k ≠ 6) (h7 : k ≠ 7) (h9 : k ≠ 9) {v : Value} (hv : FPu P a n c x k v) : PuI w base P a n c R x (l.setIfInBounds k true) (upd u (dPu k) v) W := by
  have e6 : (l.setIfInBounds k true).getD 6 false = l.getD 6 false := getD_other l h6
  have e7 : (l.setIfInBounds k true).getD 7 false = l.getD 7 false := getD_other l h7
  have e9 : (l.setIfInBounds k true).getD 9 false = l.getD 9 false := getD_other l h9
  have dd : dPu k = 4 + k := by unfold dPu; rw [if_neg h9]
  have u10 : upd u (dPu k) v 10 = u 10 := by unfold upd; rw [if_neg (by omega)]
  have u11 : upd u (dPu k) v 11 = u 11 := by unfold upd; rw [if_neg (by omega)]
  refine ⟨facts_put (n := 10) (F := fun k t _ => FPu P a n c x k t) (w := W) (w' := W) (dPu_inj k hk) h.facts (fun _ _ _ _ _ z => z) hv, ?_, fun e => h.first (e7 ▸ e), fun e => h.box (e9 ▸ e), ?_, fun e => h.last (e9 ▸ e), ?_, ?_, ?_⟩
  · rw [e6, e7, u10]; exact h.lit
  · rw [e7, e9, u11]; exact h.half
  · rw [e6, e7]; exact h.ahead
  · rw [e7]; exact fun e => set_mono hl (h.load e)
  · rw [e7, e9]; exact h.chain
theorem PuI.built {w : World} {base P : Nat} {a : Option Addr} {n c : Nat} {R : List Run} {x : Run} {l : Array Bool} {u : Nat → Value} {W : World} (h : PuI w base P a n c R x l u W) (hl : l.size = 10) (h6 : l.getD 6 false = false) :
    PuI w base P a n c R x (l.setIfInBounds 6 true) (upd u 10 (.slice (some ⟨W.heap.size, 0, none⟩) 1 1)) (W.alloc (.cells #[.int .i64 (x.1 : Int), .int .i64 (x.2 : Int)] 81)) := by
  have h7 : l.getD 7 false = false := by
    cases e : l.getD 7 false
    · rfl
    · rw [h.ahead e] at h6; cases h6
  have h9 : l.getD 9 false = false := by
    cases e : l.getD 9 false
    · rfl
    · rw [h.chain e] at h7; cases h7
  have e7 : (l.setIfInBounds 6 true).getD 7 false = false := (getD_other l (by decide)).trans h7
  have e9 : (l.setIfInBounds 6 true).getD 9 false = false := (getD_other l (by decide)).trans h9
  have hb := h.first h7
  have hB : Below W.heap.size W (W.alloc (.cells #[.int .i64 (x.1 : Int), .int .i64 (x.2 : Int)] 81)) := (Below.refl _ W).alloc (Nat.le_refl _) _
  refine ⟨fun k hk e => ?_, fun _ _ => ⟨W.heap.size, by simp [upd], heap_alloc_new _ _⟩, fun _ => hb.trans (hB.mono hb.size), fun _ => (hB.block P (lt_of_block (h.box h9))).trans (h.box h9), (fun e => by rw [e7] at e; cases e), (fun e => by rw [e9] at e; cases e), (fun e => by rw [e7] at e; cases e), (fun e => by rw [e7] at e; cases e), (fun e => by rw [e9] at e; cases e)⟩
  by_cases e1 : k = 6
  · subst e1; trivial
  · rw [getD_other l (Ne.symm e1)] at e
    have dd : dPu k ≠ 10 := by unfold dPu; split <;> omega
    unfold upd
    rw [if_neg dd]
    exact h.facts k hk e
theorem PuI.app {w : World} {base P : Nat} {a : Option Addr} {n c : Nat} {R : List Run} {x : Run} {l : Array Bool} {u : Nat → Value} {W W' : World} {v' : Value} (h : PuI w base P a n c R x l u W) (hl : l.size = 10) (h7 : l.getD 7 false = false) (h6 : l.getD 6 false = true) (h3 : l.getD 3 false = true) (hbP : Box W' P (.slice a n c)) (hA : PuA w W' base P a n c R x v') :
    PuI w base P a n c R x (l.setIfInBounds 7 true) (upd u 11 v') W' := by
  have h9 : l.getD 9 false = false := by
    cases e : l.getD 9 false
    · rfl
    · rw [h.chain e] at h7; cases h7
  have e7 : (l.setIfInBounds 7 true).getD 7 false = true := listed_ne (by omega)
  have e9 : (l.setIfInBounds 7 true).getD 9 false = false := (getD_other l (by decide)).trans h9
  refine ⟨fun k hk e => ?_, (fun _ e => by rw [e7] at e; cases e), (fun e => by rw [e7] at e; cases e), fun _ => hbP, fun _ _ => by simp [upd]; exact hA, (fun e => by rw [e9] at e; cases e), fun _ => set_mono (by omega) h6, fun _ => set_mono (by omega) h3, (fun e => by rw [e9] at e; cases e)⟩
  by_cases e1 : k = 7
  · subst e1; trivial
  · rw [getD_other l (Ne.symm e1)] at e
    have dd : dPu k ≠ 11 := by unfold dPu; split <;> omega
    unfold upd
    rw [if_neg dd]
    exact h.facts k hk e
theorem PuI.stored {w : World} {base P : Nat} {a : Option Addr} {n c : Nat} {R : List Run} {x : Run} {l : Array Bool} {u : Nat → Value} {W W' : World} {v' : Value} (h : PuI w base P a n c R x l u W) (hl : l.size = 10) (h7 : l.getD 7 false = true) (hA : PuA w W' base P a n c R x v') (hbP : Box W' P v') :
    PuI w base P a n c R x (l.setIfInBounds 9 true) u W' := by
  have e9 : (l.setIfInBounds 9 true).getD 9 false = true := listed_ne (by omega)
  have e7 : (l.setIfInBounds 9 true).getD 7 false = true := (getD_other l (by decide)).trans h7
  refine ⟨fun k hk e => ?_, (fun _ e => by rw [e7] at e; cases e), (fun e => by rw [e7] at e; cases e), (fun e => by rw [e9] at e; cases e), (fun _ e => by rw [e9] at e; cases e), fun _ => ⟨v', hA, hbP⟩, fun _ => set_mono (by omega) (h.ahead h7), fun _ => set_mono (by omega) (h.load h7), fun _ => e7⟩
  by_cases e1 : k = 9
  · subst e1; trivial
  · rw [getD_other l (Ne.symm e1)] at e; exact h.facts k hk e
theorem puA_set {w W : World} {base P : Nat} {a : Option Addr} {n c : Nat} {R : List Run} {x : Run} {v' : Value} (h : PuA w W base P a n c R x v') (hP : P < w.heap.size) (hne : v'.ownBlock ≠ some P) (q : Value) : PuA w (W.setCell ⟨P, 0, none⟩ q) base P a n c R x v' := by
  refine ⟨?_, h.at', ⟨h.fr.os, h.fr.tape, h.fr.output, by simpa using h.fr.size, fun k hk hn hb => (block_set hn).trans (h.fr.block k hk hn hb)⟩⟩
  obtain ⟨h0, ⟨h1, h2⟩ | ⟨g, cap, cur, h1, hg, hh, hle, hm, hs, ht⟩⟩ := h.own
  · exact ⟨h0, .inl ⟨h1, h2⟩⟩
  · refine ⟨h0, .inr ⟨g, cap, cur, h1, hg, (block_set ?_).trans hh, hle, hm, hs, ht⟩⟩
    intro e
    subst e
    exact hne (by rw [h1]; rfl)
theorem app_puA {w W W' : World} {base P : Nat} {a : Option Addr} {n c : Nat} {R : List Run} {x : Run} {v' : Value} (hb : Below w.heap.size w W) (hrow : W'.ownsRow base 81 2 v' (R.length + 1) (cellsF R ++ cellsF [x])) (hg : W.grownBy W' (Value.slice a n c).ownBlock) (hat : v'.ownBlock = (Value.slice a n c).ownBlock ∨ v'.ownBlock = some W.heap.size) : PuA w W' base P a n c R x v' := by
  refine ⟨?_, ?_, ⟨hg.os.trans hb.os, hg.tape.trans hb.tape, hg.output.trans hb.output, Nat.le_trans hb.size hg.size, fun k hk _ hn => (hg.block k (Nat.lt_of_lt_of_le hk hb.size) (Ne.symm hn)).trans (hb.block k hk)⟩⟩
  · unfold OwnF
    rw [cellsF_append, List.length_append]
    exact hrow
  · rcases hat with e | e
    · exact .inl e
    · exact .inr ⟨_, e, hb.size⟩
set_option maxHeartbeats 8000000 in
theorem pushM_any {w : World} {base P : Nat} {a : Option Addr} {n c : Nat} {R : List Run} (hB : Box w P (.slice a n c)) (hO : OwnF w base (.slice a n c) R) (hne : (Value.slice a n c).ownBlock ≠ some P) (hl : R.length < 1048576) (hbP : base ≤ P) (x : Run) :
    Calls Tryz.prog 184 #[.pointer (some ⟨P, 0, none⟩), .iface 81 (.agg #[.int .i64 (x.1 : Int), .int .i64 (x.2 : Int)])] w fun e w' => e = .returned (.tuple #[]) ∧ ∃ v', PuA w w' base P a n c R x v' ∧ Box w' P v' := by
  obtain ⟨i0, hi0, hz0, hz1, hz2⟩ := info_parts infoF
  have hPl := lt_of_block hB
  obtain rfl := ownF_n hO
  have HO : Hid _ := hO
  have HB : Hid _ := hB
  have HNE : Hid _ := hne
  clear hO hB hne
  go_enter Tryz.func184, Tryz.ntmps184
  go_upto_region 0 with fail
  generalize hA0 : (Act.mk _ []) = A0
  have e0 : A0.tmps.getD 0 undef = .pointer (some ⟨P, 0, none⟩) := by rw [← hA0]; rfl
  have e1 : A0.tmps.getD 1 undef = .iface 81 (.agg #[.int .i64 (x.1 : Int), .int .i64 (x.2 : Int)]) := by rw [← hA0]; rfl
  have sz : A0.tmps.size = 13 := by rw [← hA0]; rfl
  have start : PuI w base P a R.length c R x (Array.replicate 10 false) (fun s => A0.tmps.getD s undef) w.drew := by
    have z : ∀ k, (Array.replicate 10 false).getD k false = false := fun k => by
      rw [Array.getD_eq_getD_getElem?, Array.getElem?_replicate]; split <;> rfl
    exact ⟨(fun k _ e => by rw [z] at e; cases e), (fun e => by rw [z] at e; cases e), fun _ => (Below.refl _ _).drew, fun _ => HB.out, (fun e => by rw [z] at e; cases e), (fun e => by rw [z] at e; cases e), (fun e => by rw [z] at e; cases e), (fun e => by rw [z] at e; cases e), (fun e => by rw [z] at e; cases e)⟩
  refine wp_region_bind (by kernel_rfl) DPu (by simp) ?_ (PuI w base P a R.length c R x) start ?_ ?_
  · intro k o ho
    have hk : k < 10 := (Array.getElem?_eq_some_iff.1 ho).1
    rcases (show k = 0 ∨ k = 1 ∨ k = 2 ∨ k = 3 ∨ k = 4 ∨ k = 5 ∨ k = 6 ∨ k = 7 ∨ k = 8 ∨ k = 9 by omega) with rfl | rfl | rfl | rfl | rfl | rfl | rfl | rfl | rfl | rfl <;> (obtain rfl := Option.some.inj ho; simp [Region.binds])
  · intro l u W hI hA
    have HF : Hid _ := hI.last (hA 9 (by simp))
    clear hI hA start HO HB
    subst hA0
    simp [ovr, DPu, List.range, List.range.loop]
    go_wp2
    exact bodyPost_end (results_none rfl _ _ _) rfl ⟨rfl, HF.out⟩
  · intro l u W k o hI hl' hlk ho hd
    have hk : k < 10 := (Array.getElem?_eq_some_iff.1 ho).1
    have hl2 : l.size = 10 := hl'
    have ev : ∀ s, DPu s = true → s < 13 → (ovr DPu A0 u).tmps[s]?.getD undef = u s := fun s h1 h2 => (getD_at _ _).symm.trans (eval_in h1 (by omega))
    have o0 : (ovr DPu A0 u).tmps[0]?.getD undef = _ := (getD_at _ _).symm.trans ((eval_out (D := DPu) (a0 := A0) (u := u) (s := 0) rfl (by omega)).trans e0)
    have o1 : (ovr DPu A0 u).tmps[1]?.getD undef = _ := (getD_at _ _).symm.trans ((eval_out (D := DPu) (a0 := A0) (u := u) (s := 1) rfl (by omega)).trans e1)
    rcases (show k = 0 ∨ k = 1 ∨ k = 2 ∨ k = 3 ∨ k = 4 ∨ k = 5 ∨ k = 6 ∨ k = 7 ∨ k = 8 ∨ k = 9 by omega) with rfl | rfl | rfl | rfl | rfl | rfl | rfl | rfl | rfl | rfl
    all_goals obtain rfl := Option.some.inj ho
    · refine wp_value (v := .pointer (some ⟨P, 0, none⟩)) ?_ ⟨_, put_in (d := 4) rfl rfl u _, hI.value (by omega) (by decide) (by decide) (by decide) (by decide) rfl⟩
      simp only [execOp]
      go_simp
    · refine wp_value (v := .pointer (some ⟨P, 0, none⟩)) ?_ ⟨_, put_in (d := 5) rfl rfl u _, hI.value (by omega) (by decide) (by decide) (by decide) (by decide) rfl⟩
      simp only [execOp]
      go_simp
    · have x1 := (ev 5 rfl (by decide)).trans (hI.facts 1 (by decide) (hd ⟨1, .data⟩ (by simp) (by simp [Region.binds])))
      refine wp_value (v := .pointer (some ⟨P, 0, none⟩)) ?_ ⟨_, put_in (d := 6) rfl rfl u _, hI.value (by omega) (by decide) (by decide) (by decide) (by decide) rfl⟩
      simp only [execOp]
      go_simp
    · have x2 := (ev 6 rfl (by decide)).trans (hI.facts 2 (by decide) (hd ⟨2, .data⟩ (by simp) (by simp [Region.binds])))
      have h9 : l.getD 9 false = false := by
        cases e : l.getD 9 false
        · rfl
        · obtain ⟨v', hA, hb⟩ := hI.last e
          have h7 := hI.chain e
          exact absurd (hI.load h7) (by rw [hlk]; decide)
      have c0 := (box_cell (hI.box h9)).1
      refine wp_value (v := .slice a R.length c) ?_ ⟨_, put_in (d := 7) rfl rfl u _, hI.value (by omega) (by decide) (by decide) (by decide) (by decide) rfl⟩
      simp only [execOp]
      go_simp
    · refine wp_value (v := .iface 81 (.agg #[.int .i64 (x.1 : Int), .int .i64 (x.2 : Int)])) ?_ ⟨_, put_in (d := 8) rfl rfl u _, hI.value (by omega) (by decide) (by decide) (by decide) (by decide) rfl⟩
      simp only [execOp]
      go_simp
    · have x4 := (ev 8 rfl (by decide)).trans (hI.facts 4 (by decide) (hd ⟨4, .data⟩ (by simp) (by simp [Region.binds])))
      refine wp_value (v := .agg #[.int .i64 (x.1 : Int), .int .i64 (x.2 : Int)]) ?_ ⟨_, put_in (d := 9) rfl rfl u _, hI.value (by omega) (by decide) (by decide) (by decide) (by decide) rfl⟩
      simp only [execOp]
      have as5 := asF (.agg #[.int .i64 (x.1 : Int), .int .i64 (x.2 : Int)]) W
      go_simp
    · have x5 := (ev 9 rfl (by decide)).trans (hI.facts 5 (by decide) (hd ⟨5, .data⟩ (by simp) (by simp [Region.binds])))
      refine wp_value (w' := W.alloc (.cells #[.int .i64 (x.1 : Int), .int .i64 (x.2 : Int)] 81)) (v := .slice (some ⟨W.heap.size, 0, none⟩) 1 1) ?_ ⟨_, put_in (d := 10) rfl rfl u _, hI.built hl2 hlk⟩
      simp only [execOp]
      go_simp
    · have x3 := (ev 7 rfl (by decide)).trans (hI.facts 3 (by decide) (hd ⟨3, .data⟩ (by simp) (by simp [Region.binds])))
      have h6 := hd ⟨6, .data⟩ (by simp) (by simp [Region.binds])
      obtain ⟨b, ub, hb⟩ := hI.lit h6 hlk
      have x6 := (ev 10 rfl (by decide)).trans ub
      have hBl := hI.first hlk
      have hbase : base ≤ W.heap.size := by have := hBl.size; omega
      obtain ⟨v', w', hr, q2, q3, _, q5⟩ := run_append_own_at (P := Tryz.prog) W base 132 132 81 i0 (.agg #[.int .i64 0, .int .i64 0]) 2 16 Tryz.underlying132 hi0 hz0 hz1 hz2 rfl (by decide) (.slice a R.length c) R.length (cellsF R) (ownF_below HO.out hBl) ⟨b, 0, none⟩ 1 1 (cellsF [x]) rfl (World.news_of_block hb) (cellsF_one _) (by unfold maxLen; omega) (by omega) hbase
      have h9 : l.getD 9 false = false := by
        cases e : l.getD 9 false
        · rfl
        · rw [hI.chain e] at hlk; cases hlk
      refine wp_value (w' := w') (v := v') ?_ ⟨_, put_in (d := 11) rfl rfl u _, hI.app hl2 hlk h6 (hd ⟨3, .data⟩ (by simp) (by simp [Region.binds])) ((q3.block P (Nat.lt_of_lt_of_le hPl hBl.size) (Ne.symm HNE.out)).trans (hI.box h9)) (app_puA hBl q2 q3 q5)⟩
      simp [execOp, resolve, invoke, builtin, x3, x6, hr, Result.andThen, Act.eval, getD_at]
    · have x0 := (ev 4 rfl (by decide)).trans (hI.facts 0 (by decide) (hd ⟨0, .data⟩ (by simp) (by simp [Region.binds])))
      refine wp_value (v := .pointer (some ⟨P, 0, none⟩)) ?_ ⟨_, put_in (d := 12) rfl rfl u _, hI.value (by omega) (by decide) (by decide) (by decide) (by decide) rfl⟩
      simp only [execOp]
      go_simp
    · have x8 := (ev 12 rfl (by decide)).trans (hI.facts 8 (by decide) (hd ⟨8, .data⟩ (by simp) (by simp [Region.binds])))
      have h7 := hd ⟨7, .data⟩ (by simp) (by simp [Region.binds])
      have hA := hI.half h7 hlk
      obtain ⟨c0, f0⟩ := box_cell (hI.box hlk)
      have x7 := ev 11 rfl (by decide)
      have hne' : (u 11).ownBlock ≠ some P := by
        rcases hA.at' with e | ⟨kk, e, hk2⟩
        · rw [e]; exact HNE.out
        · rw [e]; intro e2; injection e2 with e2; omega
      refine wp_skip' (w' := W.setCell ⟨P, 0, none⟩ (u 11)) ?_ ⟨u, put_no rfl u undef, hI.stored hl2 h7 (puA_set hA hPl hne' _) (box_set (hI.box hlk))⟩
      obtain ⟨a', c', e'⟩ := ownF_slice hA.own
      rw [e'] at x7 ⊢
      simp only [execOp]
      go_simp
end Go.Proofs.YthfhjgkpabkeaaaGreat.walks
namespace Go.Proofs.YthfhjgkpabkeaaaGreat.walks
open Go.RowKit rows heads words region
set_option maxRecDepth 100000
set_option linter.unusedVariables false
set_option linter.unusedSimpArgs false

theorem cellsF_take : ∀ (R : List Run) (m : Nat), cellsF (R.take m) = (cellsF R).take (m * 2)
  | [], m => by simp [cellsF]
  | r :: R, 0 => by simp [cellsF]
  | r :: R, m + 1 => by
    have e : (m + 1) * 2 = m * 2 + 1 + 1 := by omega
    simp only [cellsF, e, List.take_succ_cons, cellsF_take R m]
theorem ownF_take {w : World} {base g n c : Nat} {R : List Run} (h : OwnF w base (.slice (some ⟨g, 0, none⟩) n c) R) {m : Nat} (hm : m ≤ R.length) : OwnF w base (.slice (some ⟨g, 0, none⟩) m c) (R.take m) := by
  obtain rfl := ownF_n h
  obtain ⟨h0, ⟨h1, h2⟩ | ⟨g', cap, cur, h1, hg, hh, hle, hmx, hs, ht⟩⟩ := h
  · cases h1
  · injection h1 with e1 e2 e3
    injection e1 with e1
    injection e1 with e1
    subst e1 e3
    have el : (R.take m).length = m := by rw [List.length_take]; omega
    refine ⟨by rw [cellsF_length], .inr ⟨g, c, cur, by rw [el], hg, hh, by omega, hmx, hs, ?_⟩⟩
    rw [el, cellsF_take, ← ht, List.take_take]
    congr 1
    omega
set_option maxHeartbeats 8000000 in
theorem popM_any {w : World} {base P g m c : Nat} {R : List Run} (hB : Box w P (.slice (some ⟨g, 0, none⟩) (m + 1) c)) (hO : OwnF w base (.slice (some ⟨g, 0, none⟩) (m + 1) c) R) (hne : g ≠ P) (hl : m < 1048576) :
    Calls Tryz.prog 183 #[.pointer (some ⟨P, 0, none⟩)] w fun e w' => e = .returned (.iface 81 (.agg #[.int .i64 ((rd R m).1 : Int), .int .i64 ((rd R m).2 : Int)])) ∧ Box w' P (.slice (some ⟨g, 0, none⟩) m c) ∧ OwnF w' base (.slice (some ⟨g, 0, none⟩) m c) (R.take m) ∧ Fr P none w w' := by
  have hn : m + 1 = R.length := ownF_n hO
  obtain ⟨⟨x0, x1⟩, _⟩ := ownF_two hO (show m < R.length by omega)
  obtain ⟨p0, pf⟩ := box_cell hB
  have hc : m + 1 ≤ c := by
    obtain ⟨h0, ⟨h1, h2⟩ | ⟨g', cap, cur, h1, hg, hh, hle, hmx, hs, ht⟩⟩ := hO
    · cases h1
    · injection h1 with e1 e2 e3
      subst e3
      omega
  have HE : Hid (∀ V, Below w.heap.size w V → Box V P (.slice (some ⟨g, 0, none⟩) (m + 1) c) ∧ OwnF V base (.slice (some ⟨g, 0, none⟩) m c) (R.take m)) := fun V hV => ⟨(hV.block P (lt_of_block hB)).trans hB, ownF_below (ownF_take hO (by omega)) hV⟩
  have HP : Hid (P < w.heap.size ∧ g < w.heap.size) := ⟨lt_of_block hB, (ownF_lt hO g rfl).2⟩
  obtain ⟨x, hx⟩ : ∃ x, rd R m = x := ⟨_, rfl⟩
  rw [hx] at x0 x1
  rw [hx]
  clear hO hB hn hx
  go_enter Tryz.func183, Tryz.ntmps183
  go_upto_region 3 with fail
  have B1 : Below w.heap.size w (w.alloc (fcb x.1 x.2)) := (Below.refl _ _).alloc (Nat.le_refl _) _
  have T1 := heap_alloc_new w (fcb x.1 x.2)
  obtain ⟨b1, o1⟩ := HE.out _ B1
  obtain ⟨q0, qf⟩ := box_cell b1
  have y0 : (w.alloc (fcb x.1 x.2)).cell? ⟨w.heap.size, 0, none⟩ = some (.int .i64 (x.1 : Int)) := cellW_of (cs := [.int .i64 (x.1 : Int), .int .i64 (x.2 : Int)]) T1 rfl
  have y1 : (w.alloc (fcb x.1 x.2)).cell? ⟨w.heap.size, 1, none⟩ = some (.int .i64 (x.2 : Int)) := cellW_of (cs := [.int .i64 (x.1 : Int), .int .i64 (x.2 : Int)]) T1 rfl
  have HB1 : Hid _ := b1
  have HO1 : Hid _ := o1
  have HBL : Hid _ := B1
  have hPn : P ≠ w.heap.size := by have := HP.out.1; omega
  have hPn' : w.heap.size ≠ P := by have := HP.out.1; omega
  clear p0 pf x0 x1 b1 o1 B1 T1 HE
  generalize w.alloc (fcb x.1 x.2) = X at *
  have i1 : (m : Int) + 1 - 1 = (m : Int) := by omega
  go_upto_region 4 with fail
  have z0 : (X.setCell ⟨P, 0, none⟩ (.slice (some ⟨g, 0, none⟩) m c)).cell? ⟨w.heap.size, 0, none⟩ = some (.int .i64 (x.1 : Int)) := by
    unfold World.cell?
    rw [block_set hPn']
    exact y0
  have z1 : (X.setCell ⟨P, 0, none⟩ (.slice (some ⟨g, 0, none⟩) m c)).cell? ⟨w.heap.size, 1, none⟩ = some (.int .i64 (x.2 : Int)) := by
    unfold World.cell?
    rw [block_set hPn']
    exact y1
  have HBX : Hid (Box (X.setCell ⟨P, 0, none⟩ (.slice (some ⟨g, 0, none⟩) m c)) P (.slice (some ⟨g, 0, none⟩) m c)) := box_set HB1.out
  have HOX : Hid (OwnF (X.setCell ⟨P, 0, none⟩ (.slice (some ⟨g, 0, none⟩) m c)) base (.slice (some ⟨g, 0, none⟩) m c) (R.take m)) := by
    obtain ⟨h0, ⟨h1, h2⟩ | ⟨g', cap, cur, h1, hg, hh, hle, hmx, hs, ht⟩⟩ := HO1.out
    · cases h1
    · refine ⟨h0, .inr ⟨g', cap, cur, h1, hg, (block_set ?_).trans hh, hle, hmx, hs, ht⟩⟩
      injection h1 with e1
      injection e1 with e1
      injection e1 with e1
      rw [← e1]
      exact hne
  have HFX : Hid (Fr P none w (X.setCell ⟨P, 0, none⟩ (.slice (some ⟨g, 0, none⟩) m c))) := ⟨HBL.out.os, HBL.out.tape, HBL.out.output, by simpa using HBL.out.size, fun k hk hn _ => (block_set hn).trans (HBL.out.block k hk)⟩
  generalize X.setCell ⟨P, 0, none⟩ (.slice (some ⟨g, 0, none⟩) m c) = Y at *
  go_wp2
  go_ret
  exact ⟨rfl, HBX.out, HOX.out, HFX.out⟩
/-- A box of free chunks, and blocks that are left alone. -/
structure Bag (w : World) (base P : Nat) (hi : Nat → Prop) (R : List Run) : Prop where
  ex : ∃ a c, Box w P (.slice a R.length c) ∧ OwnF w base (.slice a R.length c) R ∧ ∀ k, (Value.slice a R.length c).ownBlock = some k → ¬ hi k ∧ k ≠ P
  le : base ≤ P
  nP : ¬ hi P
  sw : ∀ k, hi k → k < w.heap.size
  len : R.length ≤ 1048576
/-- Nothing is changed below the base, nor of what is to be left alone. -/
structure Kp (base P : Nat) (hi : Nat → Prop) (w w' : World) : Prop where
  below : Below base w w'
  mid : ∀ k, hi k → w'.heap[k]? = w.heap[k]?
theorem Kp.refl (base P : Nat) (hi : Nat → Prop) (w : World) : Kp base P hi w w := ⟨Below.refl _ _, fun _ _ => rfl⟩
theorem Kp.trans {base P : Nat} {hi : Nat → Prop} {a b c : World} (h : Kp base P hi a b) (k : Kp base P hi b c) : Kp base P hi a c := ⟨h.below.trans k.below, fun q h1 => (k.mid q h1).trans (h.mid q h1)⟩
theorem kp_below {base P : Nat} {hi : Nat → Prop} {w w' : World} (h : Below w.heap.size w w') (hb : base ≤ w.heap.size) (hh : ∀ k, hi k → k < w.heap.size) : Kp base P hi w w' := ⟨h.mono hb, fun k h2 => h.block k (hh k h2)⟩
theorem Bag.pw {w : World} {base P : Nat} {hi : Nat → Prop} {R : List Run} (h : Bag w base P hi R) : P < w.heap.size := by
  obtain ⟨a, c, h1, _⟩ := h.ex
  exact lt_of_block h1
theorem Bag.base {w : World} {base P : Nat} {hi : Nat → Prop} {R : List Run} (h : Bag w base P hi R) : base ≤ w.heap.size := by have := h.le; have := h.pw; omega
theorem Bag.grow {w w' : World} {base P : Nat} {hi : Nat → Prop} {R : List Run} (h : Bag w base P hi R) (hb : Below w.heap.size w w') : Bag w' base P hi R ∧ Kp base P hi w w' := by
  obtain ⟨a, c, h1, h2, h3⟩ := h.ex
  exact ⟨⟨⟨a, c, (hb.block P (lt_of_block h1)).trans h1, ownF_below h2 hb, h3⟩, h.le, h.nP, fun k hk => Nat.lt_of_lt_of_le (h.sw k hk) hb.size, h.len⟩, kp_below hb h.base h.sw⟩
/-- One block more to be left alone. -/
theorem Bag.more {w : World} {base P : Nat} {hi : Nat → Prop} {R : List Run} (h : Bag w base P hi R) {B : Nat} (hB : B < w.heap.size) (hP : B ≠ P) (hn : ∀ a c, Box w P (.slice a R.length c) → (Value.slice a R.length c).ownBlock ≠ some B) : Bag w base P (fun k => hi k ∨ k = B) R := by
  obtain ⟨a, c, h1, h2, h3⟩ := h.ex
  refine ⟨⟨a, c, h1, h2, fun k hk => ⟨fun e => ?_, (h3 k hk).2⟩⟩, h.le, fun e => ?_, fun k hk => ?_, h.len⟩
  · rcases e with e | e
    · exact (h3 k hk).1 e
    · exact hn a c h1 (e ▸ hk)
  · rcases e with e | e
    · exact h.nP e
    · exact hP e.symm
  · rcases hk with e | e
    · exact h.sw k e
    · exact e ▸ hB
theorem Bag.less {w : World} {base P : Nat} {hi : Nat → Prop} {R : List Run} {B : Nat} (h : Bag w base P (fun k => hi k ∨ k = B) R) : Bag w base P hi R := by
  obtain ⟨a, c, h1, h2, h3⟩ := h.ex
  exact ⟨⟨a, c, h1, h2, fun k hk => ⟨fun e => (h3 k hk).1 (.inl e), (h3 k hk).2⟩⟩, h.le, fun e => h.nP (.inl e), fun k hk => h.sw k (.inl hk), h.len⟩
theorem Kp.less {base P : Nat} {hi : Nat → Prop} {w w' : World} {B : Nat} (h : Kp base P (fun k => hi k ∨ k = B) w w') : Kp base P hi w w' := ⟨h.below, fun k hk => h.mid k (.inl hk)⟩
end Go.Proofs.YthfhjgkpabkeaaaGreat.walks
namespace Go.Proofs.YthfhjgkpabkeaaaGreat.walks
open Go.RowKit rows heads words region
set_option maxRecDepth 100000
set_option linter.unusedVariables false
set_option linter.unusedSimpArgs false

/-- What is known of a box that is not empty. -/
theorem Bag.open' {w : World} {base P : Nat} {hi : Nat → Prop} {R : List Run} (h : Bag w base P hi R) (h0 : 0 < R.length) : ∃ g c, Box w P (.slice (some ⟨g, 0, none⟩) R.length c) ∧ OwnF w base (.slice (some ⟨g, 0, none⟩) R.length c) R ∧ (¬ hi g ∧ g ≠ P) ∧ base ≤ g := by
  obtain ⟨a, c, h1, h2, h3⟩ := h.ex
  obtain ⟨g, rfl, _, hb, _⟩ := ownF_form h2 h0
  exact ⟨g, c, h1, h2, h3 g rfl, hb⟩
theorem Bag.swapped {w w' : World} {base P g c : Nat} {hi : Nat → Prop} {R : List Run} {i j : Nat} (h : Bag w base P hi R) (hx : Box w P (.slice (some ⟨g, 0, none⟩) R.length c)) (hg : ¬ hi g ∧ g ≠ P) (hO : OwnF w' base (.slice (some ⟨g, 0, none⟩) R.length c) (swp R i j)) (hb : Below base w w') (hm : ∀ k, k ≠ g → k < w.heap.size → w'.heap[k]? = w.heap[k]?) : Bag w' base P hi (swp R i j) ∧ Kp base P hi w w' := by
  refine ⟨⟨⟨some ⟨g, 0, none⟩, c, ?_, ?_, fun k hk => ?_⟩, h.le, h.nP, fun k hk => Nat.lt_of_lt_of_le (h.sw k hk) hb.size, by rw [swp_len]; exact h.len⟩, hb, fun k h1 => hm k (fun e => hg.1 (e ▸ h1)) (h.sw k h1)⟩
  · rw [swp_len]
    exact (hm P (fun e => hg.2 e.symm) h.pw).trans hx
  · rw [swp_len]; exact hO
  · have : g = k := Option.some.inj hk
    exact this ▸ hg
abbrev bagv (P : Nat) : Value := .iface 134 (.pointer (some ⟨P, 0, none⟩))
set_option maxHeartbeats 8000000 in
theorem up_any {w : World} {base P : Nat} {hi : Nat → Prop} {R : List Run} (hB : Bag w base P hi R) {j : Nat} (hU : UpF R j) :
    Calls Tryz.prog 142 #[bagv P, .int .i64 (j : Int)] w fun e w' => e = .returned (.tuple #[]) ∧ ∃ R', Bag w' base P hi R' ∧ R'.length = R.length ∧ HeapF R' R'.length ∧ (∀ x, x ∈ R' ↔ x ∈ R) ∧ Kp base P hi w w' := by
  have HB0 : Hid _ := hB
  have HU0 : Hid _ := hU
  have hj0 := hU.lt
  have hlen := hB.len
  clear hB hU
  unfold bagv
  go_enter Tryz.func142, Tryz.ntmps142
  go_wp2_with fail
  go_loopw [1] (fun q wr => ∃ (k : Nat) (R' : List Run), q = .int .i64 (k : Int) ∧ Bag wr base P hi R' ∧ UpF R' k ∧ R'.length = R.length ∧ (∀ x, x ∈ R' ↔ x ∈ R) ∧ Kp base P hi w wr) (fun q _ => (intOf q).toNat)
  case atStart => exact ⟨j, R, rfl, HB0.out, HU0.out, rfl, fun _ => Iff.rfl, Kp.refl _ _ _ _⟩
  case round =>
    obtain ⟨k, R', rfl, hB, hU, hl, hm, hK⟩ := hrel
    clear HB0 HU0
    have hk := hU.lt
    obtain ⟨g, c, hx, hO, hg, hbg⟩ := hB.open' (by omega)
    have z0 := (box_cell hx).1
    have ML := mLess z0
    have hkl : k ≤ 1048576 := by omega
    have HBB : Hid _ := hB
    have HUU : Hid _ := hU
    have HM : Hid _ := hm
    have HK : Hid _ := hK
    have HL : Hid _ := hl
    by_cases h0 : k = 0
    · subst h0
      have HH : Hid _ := hU.stop (.inl rfl)
      clear hB hU hm hK hl
      go_wp2
      exact bodyPost_end (results_none rfl _ _ _) rfl ⟨rfl, R', HBB.out, HL.out, HH.out, HM.out, HK.out⟩
    · obtain ⟨p, hp⟩ : ∃ p, (k - 1) / 2 = p := ⟨_, rfl⟩
      have hpk : p < k := by omega
      have hq : Int.tdiv ((k : Int) - 1) 2 = (p : Int) := by rw [Int.tdiv_eq_ediv_of_nonneg (by omega)]; omega
      have hpl : p ≤ 1048576 := by omega
      have hne : ((p : Int) == (k : Int)) = false := by simp; omega
      have LE := less_any hO (i := k) (j := p) hk (by omega) (by omega)
      have HP : Hid _ := hp
      have HO : Hid _ := hO
      have HX : Hid _ := hx
      cases hlt : ltF (rd R' k) (rd R' p)
      · rw [hlt] at LE
        have HH : Hid _ := hU.stop (.inr (by rw [hp]; exact hlt))
        clear hB hU hm hK hl hlt hO hx hp
        go_wp2_with (go_at_call 180; refine LE.mono ?_; clear LE; rintro e w5 ⟨rfl, b5⟩; have HB5 : Hid _ := b5; clear b5)
        obtain ⟨B5, K5⟩ := HBB.out.grow HB5.out
        exact bodyPost_end (results_none rfl _ _ _) rfl ⟨rfl, R', B5, HL.out, HH.out, HM.out, HK.out.trans K5⟩
      · rw [hlt] at LE
        have HST : Hid _ := hU.step (by omega) (by rw [hp]; exact hlt)
        have HSW : Hid (∀ V, Below wr.heap.size wr V → V.cell? ⟨P, 0, none⟩ = some (.slice (some ⟨g, 0, none⟩) R'.length c) ∧ Calls Tryz.prog 181 #[.slice (some ⟨g, 0, none⟩) R'.length c, .int .i64 (p : Int), .int .i64 (k : Int)] V fun e w' => e = .returned (.tuple #[]) ∧ Bag w' base P hi (swp R' p k) ∧ Kp base P hi V w') := fun V hV => by
          obtain ⟨B5, K5⟩ := hB.grow hV
          have hx5 : Box V P _ := (hV.block P (lt_of_block hx)).trans hx
          refine ⟨(box_cell hx5).1, (swap_any (ownF_below hO hV) (i := p) (j := k) (by omega) hk (by omega)).mono ?_⟩
          rintro e w' ⟨rfl, O', b', s'⟩
          exact ⟨rfl, B5.swapped hx5 hg O' b' (fun q hq _ => s' q hq)⟩
        have HPK : Hid _ := And.intro hpk hk
        clear hB hU hm hK hl hlt hO hx hp
        go_wp2_with (first
          | (go_at_call 180; refine LE.mono ?_; clear LE ML z0; rintro e w5 ⟨rfl, b5⟩; have HB5 : Hid _ := b5; obtain ⟨z5, SW⟩ := HSW.out w5 b5; have MS := mSwap z5; clear b5 HSW)
          | (go_at_call 181; refine SW.mono ?_; clear SW MS z5; rintro e w6 ⟨rfl, B6, K6⟩; have HB6 : Hid _ := B6; have HK6 : Hid _ := K6; clear B6 K6))
        have hU' := HST.out
        rw [HP.out] at hU'
        refine ⟨⟨p, swp R' p k, rfl, HB6.out, hU', by rw [swp_len]; exact HL.out, fun x => (swp_mem (by have := HPK.out.1; have := HPK.out.2; omega) HPK.out.2 x).trans (HM.out x), HK.out.trans ((HBB.out.grow HB5.out).2.trans HK6.out)⟩, ?_⟩
        have := HPK.out.1
        simp [intOf]
        omega
end Go.Proofs.YthfhjgkpabkeaaaGreat.walks
