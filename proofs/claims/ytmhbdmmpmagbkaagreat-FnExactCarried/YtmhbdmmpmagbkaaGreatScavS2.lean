/-
  Chapter 11 as the specification has it: what is carried over, all of it.
  Made from the template ScavS2 (mkscavs2.py).
-/
import Derived.Test.YtmhbdmmpmagbkaaGreatScavS1
import Derived.Laws.OwnMore
import Derived.Laws.MakeOwn
namespace Go.Proofs.YtmhbdmmpmagbkaaGreat.hp
open Go.RowKit rows heads words walks region
set_option maxRecDepth 100000
set_option linter.unusedVariables false
set_option linter.unusedSimpArgs false

/-- The first words of the row are 0. -/
def zeroK (H : Hp) (i : Nat) : List Int := List.replicate i 0 ++ H.row.drop i
theorem zeroK_zero (H : Hp) : zeroK H 0 = H.row := by simp [zeroK]
theorem zeroK_next {H : Hp} {i : Nat} (hi : i < H.row.length) : (zeroK H i).set i 0 = zeroK H (i + 1) := by
  unfold zeroK
  rw [List.set_append_right _ _ (by simp), List.length_replicate, Nat.sub_self, List.drop_eq_getElem_cons hi, List.set_cons_zero, List.replicate_succ']
  simp
theorem zeroK_len {H : Hp} {i : Nat} (hi : i ≤ H.row.length) : (zeroK H i).length = H.row.length := by simp [zeroK]; omega
/-- The list of who went where, while it is made. -/
def minK (n i : Nat) : List Int := List.replicate i (-1) ++ List.replicate (n - i) 0
theorem minK_next {n i : Nat} (hi : i < n) : (minK n i).set i (-1) = minK n (i + 1) := by
  unfold minK
  rw [List.set_append_right _ _ (by simp), List.length_replicate, Nat.sub_self]
  obtain ⟨m, hm⟩ : ∃ m, n - i = m + 1 := ⟨n - i - 1, by omega⟩
  rw [hm, List.replicate_succ, List.set_cons_zero, show n - (i + 1) = m by omega, List.replicate_succ']
  simp
theorem minK_len {n i : Nat} (hi : i ≤ n) : (minK n i).length = n := by simp [minK]; omega
theorem minK_end (H : Hp) : minK (2 * hf H) (2 * hf H) = toL H (sv0 H) := by
  unfold minK toL sv0 look
  apply List.ext_getElem?
  intro i
  simp [List.getElem?_replicate]
  by_cases h : i < 2 * hf H
  · simp [h, List.getElem?_range]
  · simp [h]
theorem mkI_run (j : Nat) (hj : j ≤ 1048576) (W : World) : (Instr.makeSlice 22 (.int .i64 (j : Int)) (.int .i64 (j : Int))).run Tryz.prog W = .ok (.slice (some ⟨W.heap.size, 0, none⟩) j j) (W.alloc (.cells (cellsOf (List.replicate j 0)).toArray 2)) := by
  obtain ⟨i0, hi, hz0, hz1, hz2⟩ := info_parts info
  have h := run_make (P := Tryz.prog) W 22 2 i0 (.int .i64 0) Tryz.underlying22 hi hz0 .i64 .i64 (j : Int) (j : Int) (by omega) (Int.le_refl _) (by rw [hz2]; omega) (by omega)
  rw [h, hz1, Int.toNat_natCast, Nat.mul_one]
  have e : madeCells (Value.int .i64 0).cells j = (cellsOf (List.replicate j 0)).toArray := by
    apply Array.toList_inj.1
    rw [show (Value.int .i64 0).cells = #[.int .i64 0] from rfl, toList_madeCells_one]
    simp [cellsOf]
  rw [e]
/-- What is so ahead of the first word. -/
structure Pre (H : Hp) (w W : World) (P g1 g2 g3 k1 k2 k3 : Nat) (vr vo vm vs vz : Value) (xr : List Int) (sd tv : Int) : Prop where
  n0 : Nine W w.heap.size 31 (.int .i64 H.half) (.int .i64 H.old) vr (.int .i64 H.side) (.int .i64 H.top) vo vm vs (.int .i64 H.seed)
  n1 : Nine W (w.heap.size + 1) 31 (.int .i64 0) (.int .i64 0) (.slice none 0 0) (.int .i64 0) (.int .i64 0) (.slice none 0 0) (.slice none 0 0) (.slice none 0 0) (.int .i64 0)
  np : Nine W P 31 (.int .i64 H.half) (.int .i64 H.old) (.slice (some ⟨g1, 0, none⟩) H.row.length k1) (.int .i64 sd) (.int .i64 tv) (.slice (some ⟨g2, 0, none⟩) H.roots.length k2) (.slice (some ⟨g3, 0, none⟩) H.mourned.length k3) vz (.int .i64 H.seed)
  row : W.ownsRow w.heap.size 2 1 (.slice (some ⟨g1, 0, none⟩) H.row.length k1) H.row.length (cellsOf xr)
  roots : W.ownsRow w.heap.size 2 1 (.slice (some ⟨g2, 0, none⟩) H.roots.length k2) H.roots.length (cellsOf H.roots)
  mour : W.ownsRow w.heap.size 2 1 (.slice (some ⟨g3, 0, none⟩) H.mourned.length k3) H.mourned.length (cellsOf H.mourned)
  seen : rows.Own W w.heap.size vz H.seen
  bel : Below w.heap.size w W
  ne : P ≠ g1 ∧ P ≠ g2 ∧ P ≠ g3 ∧ g1 ≠ g2 ∧ g1 ≠ g3 ∧ g2 ≠ g3
  le : w.heap.size + 2 ≤ P ∧ w.heap.size + 2 ≤ g1 ∧ w.heap.size + 2 ≤ g2 ∧ w.heap.size + 2 ≤ g3
  sn : ∀ k ∈ blk vz, k ≠ g1 ∧ k ≠ g2 ∧ k ≠ g3 ∧ k ≠ P
theorem Pre.grow {H : Hp} {w W W' : World} {P g1 g2 g3 k1 k2 k3 : Nat} {vr vo vm vs vz : Value} {xr : List Int} {sd tv : Int} (h : Pre H w W P g1 g2 g3 k1 k2 k3 vr vo vm vs vz xr sd tv) (hb : Below W.heap.size W W') : Pre H w W' P g1 g2 g3 k1 k2 k3 vr vo vm vs vz xr sd tv :=
  ⟨nine_below h.n0 hb, nine_below h.n1 hb, nine_below h.np hb, row_ch (S := []) h.row (ch_below hb) (by simp), row_ch (S := []) h.roots (ch_below hb) (by simp), row_ch (S := []) h.mour (ch_below hb) (by simp), row_ch (S := []) h.seen (ch_below hb) (by simp), h.bel.trans (hb.mono (by have := lt_of_block h.n0; omega)), h.ne, h.le, h.sn⟩
theorem Pre.setRow {H : Hp} {w W : World} {P g1 g2 g3 k1 k2 k3 : Nat} {vr vo vm vs vz : Value} {xr : List Int} {sd tv : Int} (h : Pre H w W P g1 g2 g3 k1 k2 k3 vr vo vm vs vz xr sd tv) (q : Nat) (x : Int) : Pre H w (W.setCell ⟨g1, q, none⟩ (.int .i64 x)) P g1 g2 g3 k1 k2 k3 vr vo vm vs vz (xr.set q x) sd tv := by
  obtain ⟨n1, n2, n3, n4, n5, n6⟩ := h.ne
  obtain ⟨l0, l1, l2, l3⟩ := h.le
  exact ⟨nine_ch h.n0 (one_ch _ g1 _ _) (by simp; omega), nine_ch h.n1 (one_ch _ g1 _ _) (by simp; omega), nine_ch h.np (one_ch _ g1 _ _) (by simp; omega), by have := (World.ownsRow.stored h.row q (.int .i64 x)).1; rw [cells_set] at this; exact this, row_ch (S := [g1]) h.roots (one_ch _ _ _ _) (fun k hk => by rw [blk_of] at hk; simp at hk ⊢; omega), row_ch (S := [g1]) h.mour (one_ch _ _ _ _) (fun k hk => by rw [blk_of] at hk; simp at hk ⊢; omega), row_ch (S := [g1]) h.seen (one_ch _ _ _ _) (fun k hk => by simp; exact (h.sn k hk).1), h.bel.trans ((Below.refl _ W).setCell (p := ⟨g1, q, none⟩) (by show _ ≤ g1; omega) _), h.ne, h.le, h.sn⟩
theorem Pre.setTwo {H : Hp} {w W : World} {P g1 g2 g3 k1 k2 k3 : Nat} {vr vo vm vs vz : Value} {xr : List Int} {sd tv : Int} (h : Pre H w W P g1 g2 g3 k1 k2 k3 vr vo vm vs vz xr sd tv) (sd' tv' : Int) : Pre H w ((W.setCell ⟨P, 3, none⟩ (.int .i64 sd')).setCell ⟨P, 4, none⟩ (.int .i64 tv')) P g1 g2 g3 k1 k2 k3 vr vo vm vs vz xr sd' tv' := by
  obtain ⟨n1, n2, n3, n4, n5, n6⟩ := h.ne
  obtain ⟨l0, l1, l2, l3⟩ := h.le
  have hch : Ch [P] W ((W.setCell ⟨P, 3, none⟩ (.int .i64 sd')).setCell ⟨P, 4, none⟩ (.int .i64 tv')) := (one_ch _ _ _ _).trans (one_ch _ _ _ _)
  exact ⟨nine_ch h.n0 hch (by simp; omega), nine_ch h.n1 hch (by simp; omega), nine_set4 (nine_set3 h.np _) _, row_ch (S := [P]) h.row hch (fun k hk => by rw [blk_of] at hk; simp at hk ⊢; omega), row_ch (S := [P]) h.roots hch (fun k hk => by rw [blk_of] at hk; simp at hk ⊢; omega), row_ch (S := [P]) h.mour hch (fun k hk => by rw [blk_of] at hk; simp at hk ⊢; omega), row_ch (S := [P]) h.seen hch (fun k hk => by simp; exact (h.sn k hk).2.2.2), h.bel.trans (below_ch hch (by have := lt_of_block h.n0; omega) (fun k hk => by simp at hk; omega)), h.ne, h.le, h.sn⟩
/-- A heap of the call's own, put into a block of its own. -/
theorem pre_new {H : Hp} {w X w3 : World} {g1 g2 g3 k1 k2 k3 : Nat} {vr vo vm vs vz : Value} (hX : w.heap.size + 2 = X.heap.size) (n0 : Nine X w.heap.size 31 (.int .i64 H.half) (.int .i64 H.old) vr (.int .i64 H.side) (.int .i64 H.top) vo vm vs (.int .i64 H.seed)) (n1 : Nine X (w.heap.size + 1) 31 (.int .i64 0) (.int .i64 0) (.slice none 0 0) (.int .i64 0) (.int .i64 0) (.slice none 0 0) (.slice none 0 0) (.slice none 0 0) (.int .i64 0)) (hb0 : Below w.heap.size w X) (O : OwnH w3 X.heap.size (.slice (some ⟨g1, 0, none⟩) H.row.length k1) (.slice (some ⟨g2, 0, none⟩) H.roots.length k2) (.slice (some ⟨g3, 0, none⟩) H.mourned.length k3) vz H) (b3 : Below X.heap.size X w3) :
    Pre H w (w3.alloc (hpb H (.slice (some ⟨g1, 0, none⟩) H.row.length k1) (.slice (some ⟨g2, 0, none⟩) H.roots.length k2) (.slice (some ⟨g3, 0, none⟩) H.mourned.length k3) vz)) w3.heap.size g1 g2 g3 k1 k2 k3 vr vo vm vs vz H.row H.side H.top := by
  have hB : Below w3.heap.size w3 (w3.alloc (hpb H (.slice (some ⟨g1, 0, none⟩) H.row.length k1) (.slice (some ⟨g2, 0, none⟩) H.roots.length k2) (.slice (some ⟨g3, 0, none⟩) H.mourned.length k3) vz)) := (Below.refl _ _).alloc (Nat.le_refl _) _
  have O' := ownH_below O hB
  have hn := O.2
  unfold hblk at hn
  rw [blk_of, blk_of, blk_of] at hn
  have l1 := blk_lt O.1.1 g1 (by rw [blk_of]; simp)
  have l2 := blk_lt O.1.2.1 g2 (by rw [blk_of]; simp)
  have l3 := blk_lt O.1.2.2.1 g3 (by rw [blk_of]; simp)
  have l4 := blk_lt O.1.2.2.2
  have hs3 := b3.size
  simp at hn
  obtain ⟨⟨m1, m2, m3⟩, ⟨m4, m5⟩, m6, m7⟩ := hn
  have ob : ∀ {v : Value} {xs : List Int}, rows.Own (w3.alloc (hpb H (.slice (some ⟨g1, 0, none⟩) H.row.length k1) (.slice (some ⟨g2, 0, none⟩) H.roots.length k2) (.slice (some ⟨g3, 0, none⟩) H.mourned.length k3) vz)) X.heap.size v xs → rows.Own (w3.alloc (hpb H (.slice (some ⟨g1, 0, none⟩) H.row.length k1) (.slice (some ⟨g2, 0, none⟩) H.roots.length k2) (.slice (some ⟨g3, 0, none⟩) H.mourned.length k3) vz)) w.heap.size v xs := fun h => own_base h (by omega)
  exact ⟨nine_below (nine_below n0 b3) hB, nine_below (nine_below n1 b3) hB, nine_new _ _ _ _ _ _, ob O'.1.1, ob O'.1.2.1, ob O'.1.2.2.1, ob O'.1.2.2.2, hb0.trans ((b3.trans (hB.mono hs3)).mono hb0.size), ⟨by omega, by omega, by omega, m1, m2, m4⟩, ⟨by omega, by omega, by omega, by omega⟩, fun k hk => ⟨fun e => m3 (e ▸ hk), fun e => m5 (e ▸ hk), fun e => m6 (e ▸ hk), by have := (l4 k hk).2; omega⟩⟩
/-- What is carried, as a value. -/
abbrev cyv (H : Hp) (P gt kt : Nat) (vr vo vm vs : Value) : Value := .agg #[.int .i64 H.half, .int .i64 H.old, vr, .int .i64 H.side, .int .i64 H.top, vo, vm, vs, .int .i64 H.seed, .pointer (some ⟨P, 0, none⟩), (.slice (some ⟨gt, 0, none⟩) (2 * hf H) kt)]
def dC8 (k : Nat) : Nat := 34 + k
theorem dC8_inj : ∀ k, k < 7 → ∀ j, j < 7 → dC8 j = dC8 k → j = k := fun k _ j _ e => by unfold dC8 at e; omega
def DC8 (s : Nat) : Bool := s == 5 || (decide (34 ≤ s) && decide (s ≤ 40))
def FC8 (H : Hp) (n0 B0 P : Nat) (vr vo vm vs : Value) (k : Nat) (t : Value) (W : World) : Prop :=
  match k with
  | 0 => t = hpv H vr vo vm vs
  | 1 => t = .pointer (some ⟨B0, 0, none⟩)
  | 2 => t = .int .i64 H.half
  | 3 => t = .int .i64 (2 * H.half)
  | 4 => ∃ b, t = .slice (some ⟨b, 0, none⟩) (2 * hf H) (2 * hf H) ∧ W.heap[b]? = some (.cells (cellsOf (List.replicate (2 * hf H) 0)).toArray 2 (0, 0)) ∧ n0 ≤ b
  | 5 => ∃ b, t = cyv H P b (2 * hf H) vr vo vm vs ∧ W.heap[b]? = some (.cells (cellsOf (List.replicate (2 * hf H) 0)).toArray 2 (0, 0)) ∧ n0 ≤ b
  | 6 => ∃ b c, t = .pointer (some ⟨c, 0, none⟩) ∧ W.heap[c]? = some (cyb H P b (2 * hf H) vr vo vm vs) ∧ W.heap[b]? = some (.cells (cellsOf (List.replicate (2 * hf H) 0)).toArray 2 (0, 0)) ∧ n0 ≤ b ∧ n0 ≤ c ∧ b ≠ c
  | _ => False
theorem FC8_st {H : Hp} {n0 B0 P : Nat} {vr vo vm vs : Value} (k : Nat) (t : Value) (W W' : World) (hb : Below W.heap.size W W') (h : FC8 H n0 B0 P vr vo vm vs k t W) : FC8 H n0 B0 P vr vo vm vs k t W' := by
  match k, h with
  | 0, h => exact h
  | 1, h => exact h
  | 2, h => exact h
  | 3, h => exact h
  | 4, ⟨b, h1, h2, h3⟩ => exact ⟨b, h1, (hb.block b (lt_of_block h2)).trans h2, h3⟩
  | 5, ⟨b, h1, h2, h3⟩ => exact ⟨b, h1, (hb.block b (lt_of_block h2)).trans h2, h3⟩
  | 6, ⟨b, c, h1, h2, h3, h4, h5, h6⟩ => exact ⟨b, c, h1, (hb.block c (lt_of_block h2)).trans h2, (hb.block b (lt_of_block h3)).trans h3, h4, h5, h6⟩
  | _ + 7, h => exact h.elim
/-- All is laid out for the first word. -/
theorem sp_new {H : Hp} {w W wr : World} {P g1 g2 g3 k1 k2 k3 C gt : Nat} {vr vo vm vs vz : Value} (h : Pre H w W P g1 g2 g3 k1 k2 k3 vr vo vm vs vz (clearR H) (1 - H.side) 0) (hC : W.heap[C]? = some (cyb H P gt (2 * hf H) vr vo vm vs)) (hgt : W.heap[gt]? = some (.cells (cellsOf (List.replicate (2 * hf H) 0)).toArray 2 (0, 0))) (hw : HpAt w vr vo vm vs H) (hn : 2 * hf H ≤ 1048576) (l1 : wr.heap.size ≤ gt) (l2 : wr.heap.size ≤ C) (ne : gt ≠ C) (hr : Pre H w wr P g1 g2 g3 k1 k2 k3 vr vo vm vs vz (clearR H) (1 - H.side) 0) :
    Sp H w W W w.heap.size C P g1 g2 g3 gt k1 k2 k3 (2 * hf H) vr vo vm vs vz (clearR H) 0 (minK (2 * hf H) 0) H.roots H.mourned := by
  have q0 := lt_of_block hr.np
  have q1 := (blk_lt hr.row g1 (by rw [blk_of]; simp)).2
  have q2 := (blk_lt hr.roots g2 (by rw [blk_of]; simp)).2
  have q3 := (blk_lt hr.mour g3 (by rw [blk_of]; simp)).2
  have q4 := blk_lt hr.seen
  obtain ⟨n1, n2, n3, n4, n5, n6⟩ := h.ne
  obtain ⟨m0, m1, m2, m3⟩ := h.le
  have hmin : minK (2 * hf H) 0 = List.replicate (2 * hf H) 0 := by simp [minK]
  refine ⟨⟨fun k hk => ?_, ⟨by omega, by omega, by omega, by omega, by omega, by omega⟩, ⟨by omega, by omega, by omega, by omega, by omega⟩, ⟨by omega, by omega, by omega, by omega⟩, ⟨by omega, by omega, by omega, by omega, by omega, by omega⟩⟩, hC, h.np, h.row, h.roots, h.mour, ?_, h.seen, hpAt_below hw h.bel, h.bel, Ch.refl _ _⟩
  · have := (q4 k hk).2
    obtain ⟨e1, e2, e3, e4⟩ := h.sn k hk
    exact ⟨e1, e2, e3, by omega, e4⟩
  · rw [hmin]
    refine ⟨by simp [cellsOf], .inr ⟨gt, 2 * hf H, (cellsOf (List.replicate (2 * hf H) 0)).toArray, rfl, by omega, hgt, Nat.le_refl _, by unfold maxLen; omega, by simp [cellsOf], ?_⟩⟩
    rw [Nat.mul_one, List.take_of_length_le (by simp [cellsOf])]
def dR6 (k : Nat) : Nat := 60 + k
theorem dR6_inj : ∀ k, k < 11 → ∀ j, j < 11 → dR6 j = dR6 k → j = k := fun k _ j _ e => by unfold dR6 at e; omega
def DR6 (s : Nat) : Bool := decide (60 ≤ s) && decide (s ≤ 70)
def FR6 (H : Hp) (w : World) (P C g2 k2 lb lo c2 i : Nat) (xw yw : Int) (k : Nat) (t : Value) : Prop :=
  match k with
  | 0 => t = .pointer (some ⟨P, 5, none⟩)
  | 1 => t = .slice (some ⟨g2, 0, none⟩) H.roots.length k2
  | 2 => t = .int .i64 (i : Int)
  | 3 => t = .pointer (some ⟨C, 0, none⟩)
  | 4 => t = .pointer (some ⟨w.heap.size, 5, none⟩)
  | 5 => t = .slice (some ⟨lb, lo, none⟩) H.roots.length c2
  | 6 => t = .int .i64 (i : Int)
  | 7 => t = .pointer (some ⟨lb, lo + i, none⟩)
  | 8 => t = .int .i64 xw
  | 9 => t = .int .i64 yw
  | 10 => t = .pointer (some ⟨g2, i, none⟩)
  | _ => False
def dR0 (k : Nat) : Nat := 78 + k
theorem dR0_inj : ∀ k, k < 11 → ∀ j, j < 11 → dR0 j = dR0 k → j = k := fun k _ j _ e => by unfold dR0 at e; omega
def DR0 (s : Nat) : Bool := decide (78 ≤ s) && decide (s ≤ 88)
def FR0 (H : Hp) (w : World) (P C g3 k3 lb lo c3 i : Nat) (xw yw : Int) (k : Nat) (t : Value) : Prop :=
  match k with
  | 0 => t = .pointer (some ⟨P, 6, none⟩)
  | 1 => t = .slice (some ⟨g3, 0, none⟩) H.mourned.length k3
  | 2 => t = .int .i64 (i : Int)
  | 3 => t = .pointer (some ⟨C, 0, none⟩)
  | 4 => t = .pointer (some ⟨w.heap.size, 6, none⟩)
  | 5 => t = .slice (some ⟨lb, lo, none⟩) H.mourned.length c3
  | 6 => t = .int .i64 (i : Int)
  | 7 => t = .pointer (some ⟨lb, lo + i, none⟩)
  | 8 => t = .int .i64 xw
  | 9 => t = .int .i64 yw
  | 10 => t = .pointer (some ⟨g3, i, none⟩)
  | _ => False
def dR8 (k : Nat) : Nat := 110 + k
theorem dR8_inj : ∀ k, k < 17 → ∀ j, j < 17 → dR8 j = dR8 k → j = k := fun k _ j _ e => by unfold dR8 at e; omega
def DR8 (s : Nat) : Bool := decide (110 ≤ s) && decide (s ≤ 126)
def FR8 (H : Hp) (w : World) (P C g1 k1 rb ro c1 p j : Nat) (xw yw : Int) (k : Nat) (t : Value) : Prop :=
  match k with
  | 0 => t = .pointer (some ⟨P, 2, none⟩)
  | 1 => t = .slice (some ⟨g1, 0, none⟩) H.row.length k1
  | 2 => t = .int .i64 (p : Int)
  | 3 => t = .int .i64 ((p : Int) + 1)
  | 4 => t = .int .i64 (j : Int)
  | 5 => t = .int .i64 ((p : Int) + 1 + (j : Int))
  | 6 => t = .pointer (some ⟨C, 0, none⟩)
  | 7 => t = .pointer (some ⟨w.heap.size, 2, none⟩)
  | 8 => t = .slice (some ⟨rb, ro, none⟩) H.row.length c1
  | 9 => t = .int .i64 (p : Int)
  | 10 => t = .int .i64 ((p : Int) + 1)
  | 11 => t = .int .i64 (j : Int)
  | 12 => t = .int .i64 ((p : Int) + 1 + (j : Int))
  | 13 => t = .pointer (some ⟨rb, ro + (p + 1 + j), none⟩)
  | 14 => t = .int .i64 xw
  | 15 => t = .int .i64 yw
  | 16 => t = .pointer (some ⟨g1, p + 1 + j, none⟩)
  | _ => False
def dR9 (k : Nat) : Nat := 148 + k
theorem dR9_inj : ∀ k, k < 17 → ∀ j, j < 17 → dR9 j = dR9 k → j = k := fun k _ j _ e => by unfold dR9 at e; omega
def DR9 (s : Nat) : Bool := decide (148 ≤ s) && decide (s ≤ 164)
def FR9 (H : Hp) (w : World) (P C g1 k1 p j : Nat) (xw yw : Int) (k : Nat) (t : Value) : Prop :=
  match k with
  | 0 => t = .pointer (some ⟨P, 2, none⟩)
  | 1 => t = .slice (some ⟨g1, 0, none⟩) H.row.length k1
  | 2 => t = .int .i64 (p : Int)
  | 3 => t = .int .i64 ((p : Int) + 1)
  | 4 => t = .int .i64 (j : Int)
  | 5 => t = .int .i64 ((p : Int) + 1 + (j : Int))
  | 6 => t = .pointer (some ⟨C, 0, none⟩)
  | 7 => t = .pointer (some ⟨P, 2, none⟩)
  | 8 => t = .slice (some ⟨g1, 0, none⟩) H.row.length k1
  | 9 => t = .int .i64 (p : Int)
  | 10 => t = .int .i64 ((p : Int) + 1)
  | 11 => t = .int .i64 (j : Int)
  | 12 => t = .int .i64 ((p : Int) + 1 + (j : Int))
  | 13 => t = .pointer (some ⟨g1, p + 1 + j, none⟩)
  | 14 => t = .int .i64 xw
  | 15 => t = .int .i64 yw
  | 16 => t = .pointer (some ⟨g1, p + 1 + j, none⟩)
  | _ => False
theorem ints_cellS {V : World} {lb lo n c : Nat} {xs : List Int} (h : IntsAt V (.slice (some ⟨lb, lo, none⟩) n c) xs) {i : Nat} (hi : i < xs.length) : V.cell? ⟨lb, lo + i, none⟩ = some (.int .i64 (xs.getD i 0)) := by
  obtain ⟨a, cap, e, _, _, _, hcc⟩ := h
  injection e with e1 e2 e3
  obtain ⟨b, off, e4, _, hcc⟩ := hcc (by omega)
  rw [e4] at e1
  injection e1 with e1
  injection e1 with e5 e6
  subst e5 e6
  exact hcc i hi
/-- The first words of a list led anew, the rest as they were. -/
def lk (H : Hp) (s : Sv) (xs : List Int) (i : Nat) : List Int := (leadL H s (xs.take i)).2 ++ xs.drop i
theorem lk_zero (H : Hp) (s : Sv) (xs : List Int) : lk H s xs 0 = xs := by simp [lk, leadL]
theorem lk_end (H : Hp) (s : Sv) (xs : List Int) : lk H s xs xs.length = (leadL H s xs).2 := by simp [lk]
theorem lk_next (H : Hp) (s : Sv) {xs : List Int} {i : Nat} (hi : i < xs.length) : (lk H s xs i).set i (lead H (leadL H s (xs.take i)).1 (xs.getD i 0)).2 = lk H s xs (i + 1) := by
  have hl := leadL_len H s xs i (by omega)
  unfold lk
  rw [List.set_append_right _ _ (by omega), hl, Nat.sub_self, List.drop_eq_getElem_cons hi, List.set_cons_zero, leadL_next H s hi]
  simp
theorem lk_len (H : Hp) (s : Sv) {xs : List Int} {i : Nat} (hi : i ≤ xs.length) : (lk H s xs i).length = xs.length := by
  have hl := leadL_len H s xs i hi
  unfold lk
  rw [List.length_append, hl, List.length_drop]
  omega
theorem seen_len {H : Hp} {ps : List Int} (R : Rt H ps) : (seenL H).length ≤ 500 := by
  obtain ⟨_, _, r, u, _, hu, _, e⟩ := places_facts R.some'
  have hl := (places_plc R.some').2
  rw [e, List.length_append] at hl
  unfold seenL
  rw [hu, Option.getD_some]
  exact Nat.le_trans (List.length_filter_le _ _) (by omega)
/-- Another world to look back at. -/
theorem Sp.rebase {H : Hp} {w wb W : World} {base C P gr go gm gt kr ko km kt : Nat} {vr vo vm vs vz : Value} {xr tl rs ms : List Int} {tt : Nat} (h : Sp H w wb W base C P gr go gm gt kr ko km kt vr vo vm vs vz xr tt tl rs ms) : Sp H w W W base C P gr go gm gt kr ko km kt vr vo vm vs vz xr tt tl rs ms :=
  ⟨h.b, h.c, h.nine, h.row, h.roots, h.mour, h.tol, h.seen, h.was, h.bel, Ch.refl _ _⟩
theorem Sp.back {H : Hp} {w wb V W : World} {base C P gr go gm gt kr ko km kt : Nat} {vr vo vm vs vz : Value} {xr tl rs ms : List Int} {tt : Nat} (h : Sp H w V W base C P gr go gm gt kr ko km kt vr vo vm vs vz xr tt tl rs ms) (hc : Ch [P, gr, go, gm, gt] wb V) : Sp H w wb W base C P gr go gm gt kr ko km kt vr vo vm vs vz xr tt tl rs ms :=
  ⟨h.b, h.c, h.nine, h.row, h.roots, h.mour, h.tol, h.seen, h.was, h.bel, hc.trans h.ch⟩
theorem slotsK_next (H : Hp) (s : Sv) (q k : Nat) : slotsK H s q (k + 1) = slotStep H (slotsK H s q k) (q + k) := rfl
/-- What may be read while words are led anew. -/
theorem Sp.read {H : Hp} {w wb W : World} {C P gr go gm gt kr ko km kt : Nat} {vr vo vm vs vz : Value} {xr tl rs ms : List Int} {tt : Nat} (h : Sp H w wb W w.heap.size C P gr go gm gt kr ko km kt vr vo vm vs vz xr tt tl rs ms) (n0 : Nine wb w.heap.size 31 (.int .i64 H.half) (.int .i64 H.old) vr (.int .i64 H.side) (.int .i64 H.top) vo vm vs (.int .i64 H.seed)) (hl : w.heap.size + 2 ≤ P ∧ w.heap.size + 2 ≤ gr ∧ w.heap.size + 2 ≤ go ∧ w.heap.size + 2 ≤ gm ∧ w.heap.size + 2 ≤ gt) : Nine W w.heap.size 31 (.int .i64 H.half) (.int .i64 H.old) vr (.int .i64 H.side) (.int .i64 H.top) vo vm vs (.int .i64 H.seed) :=
  nine_ch n0 h.ch (by simp; omega)
set_option maxHeartbeats 400000000 in
theorem l11Scavenged_any {w : World} {vr vo vm vs : Value} {H : Hp} {ps : List Int} (h : HpAt w vr vo vm vs H) (hs : hpSize H ≤ 1048576) (hsn : H.seen = seenL H) (R : Rt H ps) :
    Calls Tryz.prog 45 #[hpv H vr vo vm vs] w fun e w' => ∃ (o' r' m' s' : Value), e = .returned (hpv (scavF H ps) o' r' m' s') ∧ OwnH w' w.heap.size o' r' m' s' (scavF H ps) ∧ Below w.heap.size w w' := by
  obtain ⟨a1, c1, a2, c2, a3, c3, a4, c4, e1, e2, e3, e4⟩ := hpAt_slices h
  subst e1 e2 e3 e4
  have HN : Hid (Nums H ∧ ((1 - H.side) * H.half = (nb H : Int)) ∧ (H.side = 0 ∨ H.side = 1) ∧ nb H + hf H ≤ 2 * hf H) := ⟨(places_facts R.some').1, side_base (places_facts R.some').1 (side_01 R.some'), side_01 R.some', nb_le (places_facts R.some').1⟩
  have hbd : 8 ≤ H.half ∧ H.half ≤ 200 := by have := HN.out.1.half; have := HN.out.1.half1; omega
  have hsd : 0 ≤ H.side ∧ H.side ≤ 1 := by have := HN.out.2.2.1; omega
  have HRR : Hid _ := R
  have HSN : Hid _ := hsn
  have hsl : H.seen.length ≤ 500 := by rw [hsn]; exact seen_len R
  have hm40 : H.mourned.length ≤ 40 := HN.out.1.mourned
  have HH0 : Hid _ := h
  have B0 : Below w.heap.size w (w.alloc (hpb H (.slice a1 H.row.length c1) (.slice a2 H.roots.length c2) (.slice a3 H.mourned.length c3) (.slice a4 H.seen.length c4))) := (Below.refl _ _).alloc (Nat.le_refl _) _
  have B1 := B0.alloc B0.size (hpb ⟨0, 0, [], 0, 0, [], [], [], 0⟩ (.slice none 0 0) (.slice none 0 0) (.slice none 0 0) (.slice none 0 0))
  have T0 := nine_new w H (.slice a1 H.row.length c1) (.slice a2 H.roots.length c2) (.slice a3 H.mourned.length c3) (.slice a4 H.seen.length c4)
  have T0' := nine_below T0 ((Below.refl _ _).alloc (Nat.le_refl _) (hpb ⟨0, 0, [], 0, 0, [], [], [], 0⟩ (.slice none 0 0) (.slice none 0 0) (.slice none 0 0) (.slice none 0 0)))
  have T1 : Nine ((w.alloc (hpb H (.slice a1 H.row.length c1) (.slice a2 H.roots.length c2) (.slice a3 H.mourned.length c3) (.slice a4 H.seen.length c4))).alloc (hpb ⟨0, 0, [], 0, 0, [], [], [], 0⟩ (.slice none 0 0) (.slice none 0 0) (.slice none 0 0) (.slice none 0 0))) (w.heap.size + 1) 31 (.int .i64 0) (.int .i64 0) (.slice none 0 0) (.int .i64 0) (.int .i64 0) (.slice none 0 0) (.slice none 0 0) (.slice none 0 0) (.int .i64 0) := (congrArg (fun k => ((w.alloc (hpb H (.slice a1 H.row.length c1) (.slice a2 H.roots.length c2) (.slice a3 H.mourned.length c3) (.slice a4 H.seen.length c4))).alloc (hpb ⟨0, 0, [], 0, 0, [], [], [], 0⟩ (.slice none 0 0) (.slice none 0 0) (.slice none 0 0) (.slice none 0 0))).heap[k]?) (show w.heap.size + 1 = (w.alloc (hpb H (.slice a1 H.row.length c1) (.slice a2 H.roots.length c2) (.slice a3 H.mourned.length c3) (.slice a4 H.seen.length c4))).heap.size by simp)).trans (heap_alloc_new _ _)
  have sX : w.heap.size + 2 = ((w.alloc (hpb H (.slice a1 H.row.length c1) (.slice a2 H.roots.length c2) (.slice a3 H.mourned.length c3) (.slice a4 H.seen.length c4))).alloc (hpb ⟨0, 0, [], 0, 0, [], [], [], 0⟩ (.slice none 0 0) (.slice none 0 0) (.slice none 0 0) (.slice none 0 0))).heap.size := by simp
  have CP := l9Copy_any (hpAt_below h B1) hs
  have HB1 : Hid _ := B1
  have HT0 : Hid _ := T0'
  have HT1 : Hid _ := T1
  obtain ⟨RES, hRES⟩ : ∃ RES, scavF H ps = RES := ⟨_, rfl⟩
  rw [hRES]
  have HRES : Hid _ := hRES
  clear h hs hsn R B0 B1 T0 T0' T1 hRES
  go_enter Tryz.func45, Tryz.ntmps45
  go_upto_region 1 with fail
  generalize hX : (w.alloc _).alloc _ = X at *
  have HsX : Hid _ := sX
  clear hX sX
  obtain ⟨⟨z0, z1, z2, z3, z4⟩, ⟨z5, z6, z7, z8⟩, _⟩ := nine_cells HT0.out
  go_upto_region 2 with (go_at_call 70; refine CP.mono ?_; clear CP z0 z1 z2 z3 z4 z5 z6 z7 z8; rintro e w3 ⟨g1, g2, g3, k1, k2, k3, s', rfl, O3, b3⟩; have HP0 : Hid _ := pre_new HsX.out HT0.out HT1.out HB1.out O3 b3; obtain ⟨sa, sn, sc, rfl⟩ := ints_slice (own_ints O3.1.2.2.2); clear O3 b3)
  obtain ⟨P, hP⟩ : ∃ P, w3.heap.size = P := ⟨_, rfl⟩
  rw [hP] at HP0 ⊢
  generalize w3.alloc (hpb H (.slice (some ⟨g1, 0, none⟩) H.row.length k1) (.slice (some ⟨g2, 0, none⟩) H.roots.length k2) (.slice (some ⟨g3, 0, none⟩) H.mourned.length k3) (.slice sa sn sc)) = V at *
  clear hP HT0 HT1 HB1 HsX
  obtain ⟨⟨z0, z1, z2, z3, z4⟩, ⟨z5, z6, z7, z8⟩, _⟩ := nine_cells HP0.out.n0
  obtain ⟨⟨y0, y1, y2, y3, y4⟩, ⟨y5, y6, y7, y8⟩, yf⟩ := nine_cells HP0.out.np
  have f3 := yf 3
  have f4 := yf 4
  have ws : IntKind.i64.wrap (1 - H.side) = 1 - H.side := by rw [IntKind.wrap_i64]; omega
  go_upto_region 4 with fail
  have HP1 : Hid _ := HP0.out.setTwo (1 - H.side) 0
  clear z0 z1 z2 z3 z4 z5 z6 z7 z8 y0 y1 y2 y3 y4 y5 y6 y7 y8 yf f3 f4 HP0
  generalize (V.setCell ⟨P, 3, none⟩ (.int .i64 (1 - H.side))).setCell ⟨P, 4, none⟩ (.int .i64 0) = V2 at *
  have h2w : IntKind.i64.wrap (2 * H.half) = 2 * H.half := by rw [IntKind.wrap_i64]; omega
  go_wp2_with fail
  go_loopw [4] (fun q wr => ∃ i : Nat, i ≤ 2 * hf H ∧ q = .int .i64 (i : Int) ∧ Pre H w wr P g1 g2 g3 k1 k2 k3 (.slice a1 H.row.length c1) (.slice a2 H.roots.length c2) (.slice a3 H.mourned.length c3) (.slice a4 H.seen.length c4) (.slice sa sn sc) (zeroK H i) (1 - H.side) 0) (fun q _ => 2 * hf H - (intOf q).toNat)
  case atStart => exact ⟨0, Nat.zero_le _, rfl, by rw [zeroK_zero]; exact HP1.out⟩
  case round =>
    obtain ⟨i, hi, rfl, hP⟩ := hrel
    clear HP1
    obtain ⟨⟨z0, z1, z2, z3, z4⟩, ⟨z5, z6, z7, z8⟩, _⟩ := nine_cells hP.n0
    obtain ⟨⟨y0, y1, y2, y3, y4⟩, ⟨y5, y6, y7, y8⟩, _⟩ := nine_cells hP.np
    by_cases hlt : i < 2 * hf H
    · have hlt' : (i : Int) < 2 * H.half := by have := HN.out.1.half; omega
      have hil : i < H.row.length := by have := HN.out.1.len; omega
      have hil' : (i : Int) < (H.row.length : Int) := by omega
      obtain ⟨x0, xf⟩ := own_cellAt hP.row (q := i) (by rw [zeroK_len (by omega)]; exact hil)
      have HP2 : Hid _ := hP.setRow i 0
      rw [zeroK_next hil] at HP2
      clear hP
      go_wp2_with fail
      exact ⟨⟨i + 1, by omega, by go_num, HP2.out⟩, by simp [intOf]; omega⟩
    · have hin : i = 2 * hf H := by omega
      have hlt' : ¬ (i : Int) < 2 * H.half := by have := HN.out.1.half; omega
      rw [hin] at hP
      have HP3 : Hid (Pre H w wr P g1 g2 g3 k1 k2 k3 (.slice a1 H.row.length c1) (.slice a2 H.roots.length c2) (.slice a3 H.mourned.length c3) (.slice a4 H.seen.length c4) (.slice sa sn sc) (clearR H) (1 - H.side) 0) := hP
      clear hP hin
      go_upto_region 8 with fail
      clear z0 z1 z2 z3 z4 z5 z6 z7 z8 y0 y1 y2 y3 y4 y5 y6 y7 y8 hlt hlt' hi
      have hnn : ((2 * hf H : Nat) : Int) = 2 * H.half := by have := HN.out.1.half; omega
      have HNN : Hid _ := hnn
      have hn4 : 2 * hf H ≤ 400 := by omega
      clear hnn
      generalize hA0 : (Act.mk _ []) = A0
      have e1 : A0.tmps.getD 1 undef = .pointer (some ⟨w.heap.size, 0, none⟩) := by rw [← hA0]; rfl
      have e3 : A0.tmps.getD 3 undef = .pointer (some ⟨P, 0, none⟩) := by rw [← hA0]; rfl
      have szA : A0.tmps.size = 174 := by rw [← hA0]; rfl
      refine wp_region_plain (by kernel_rfl) DC8 (by simp) ?_ 7 rfl dC8 dC8_inj (FC8 H wr.heap.size w.heap.size P (.slice a1 H.row.length c1) (.slice a2 H.roots.length c2) (.slice a3 H.mourned.length c3) (.slice a4 H.seen.length c4)) FC8_st ?_ ?_ ?_
      · intro k o ho
        have hk : k < 8 := (Array.getElem?_eq_some_iff.1 ho).1
        rcases (show k = 0 ∨ k = 1 ∨ k = 2 ∨ k = 3 ∨ k = 4 ∨ k = 5 ∨ k = 6 ∨ k = 7 by omega) with rfl | rfl | rfl | rfl | rfl | rfl | rfl | rfl <;> (obtain rfl := Option.some.inj ho; simp)
      · intro o ho kk hkk
        obtain rfl := Option.some.inj ho
        rcases (show kk = 0 ∨ kk = 1 ∨ kk = 2 ∨ kk = 3 ∨ kk = 4 ∨ kk = 5 ∨ kk = 6 by omega) with rfl | rfl | rfl | rfl | rfl | rfl | rfl <;> simp [Region.binds]
      · intro k o u W hk ho hB hF
        have ev : ∀ s, DC8 s = true → s < 174 → (ovr DC8 A0 u).tmps[s]?.getD undef = u s := fun s h1 h2 => (getD_at _ _).symm.trans (eval_in h1 (by omega))
        have o1 : (ovr DC8 A0 u).tmps[1]?.getD undef = _ := (getD_at _ _).symm.trans ((eval_out (D := DC8) (a0 := A0) (u := u) (s := 1) rfl (by omega)).trans e1)
        have o3 : (ovr DC8 A0 u).tmps[3]?.getD undef = _ := (getD_at _ _).symm.trans ((eval_out (D := DC8) (a0 := A0) (u := u) (s := 3) rfl (by omega)).trans e3)
        have S' := HP3.out.grow hB
        obtain ⟨⟨z0, z1, z2, z3, z4⟩, ⟨z5, z6, z7, z8⟩, _⟩ := nine_cells S'.n0
        rcases (show k = 0 ∨ k = 1 ∨ k = 2 ∨ k = 3 ∨ k = 4 ∨ k = 5 ∨ k = 6 by omega) with rfl | rfl | rfl | rfl | rfl | rfl | rfl
        all_goals obtain rfl := Option.some.inj ho
        · refine plainV (v := hpv H (.slice a1 H.row.length c1) (.slice a2 H.roots.length c2) (.slice a3 H.mourned.length c3) (.slice a4 H.seen.length c4)) rfl rfl ?_ rfl
          simp only [execOp]
          go_simp
        · refine plainV (v := .pointer (some ⟨w.heap.size, 0, none⟩)) rfl rfl ?_ rfl
          simp only [execOp]
          go_simp
        · have x1 := (ev 35 rfl (by decide)).trans (hF 1 (by decide) (by simp [Region.binds]))
          refine plainV (v := .int .i64 H.half) rfl rfl ?_ rfl
          simp only [execOp]
          go_simp
        · have x2 := (ev 36 rfl (by decide)).trans (hF 2 (by decide) (by simp [Region.binds]))
          refine plainV (v := .int .i64 (2 * H.half)) rfl rfl ?_ rfl
          simp only [execOp]
          go_simp
        · have x3 := (ev 37 rfl (by decide)).trans (hF 3 (by decide) (by simp [Region.binds]))
          have hmk := mkI_run (2 * hf H) (by omega) W
          rw [HNN.out] at hmk
          refine wp_value (w' := W.alloc (.cells (cellsOf (List.replicate (2 * hf H) 0)).toArray 2)) (v := .slice (some ⟨W.heap.size, 0, none⟩) (2 * hf H) (2 * hf H)) ?_ ⟨_, put_in (d := 38) rfl rfl u _, (Below.refl _ W).alloc (Nat.le_refl _) _, W.heap.size, rfl, heap_alloc_new W _, hB.size⟩
          simp only [execOp]
          go_simp
        · have x0 := (ev 34 rfl (by decide)).trans (hF 0 (by decide) (by simp [Region.binds]))
          obtain ⟨b, ub, hb, nb'⟩ := hF 4 (by decide) (by simp [Region.binds])
          have x4 := (ev 38 rfl (by decide)).trans ub
          refine wp_value (w' := W) (v := cyv H P b (2 * hf H) (.slice a1 H.row.length c1) (.slice a2 H.roots.length c2) (.slice a3 H.mourned.length c3) (.slice a4 H.seen.length c4)) ?_ ⟨_, put_in (d := 39) rfl rfl u _, Below.refl _ _, b, rfl, hb, nb'⟩
          simp only [execOp]
          go_simp
        · obtain ⟨b, ub, hb, nb'⟩ := hF 5 (by decide) (by simp [Region.binds])
          have x5 := (ev 39 rfl (by decide)).trans ub
          have hbl := lt_of_block hb
          refine wp_value (w' := W.alloc (cyb H P b (2 * hf H) (.slice a1 H.row.length c1) (.slice a2 H.roots.length c2) (.slice a3 H.mourned.length c3) (.slice a4 H.seen.length c4))) (v := .pointer (some ⟨W.heap.size, 0, none⟩)) ?_ ⟨_, put_in (d := 40) rfl rfl u _, (Below.refl _ W).alloc (Nat.le_refl _) _, b, W.heap.size, rfl, heap_alloc_new W _, (((Below.refl _ W).alloc (Nat.le_refl _) _).block b hbl).trans hb, nb', hB.size, by omega⟩
          simp only [execOp]
          go_simp
      · intro o u W ho hB hF
        obtain rfl := Option.some.inj ho
        have ev : ∀ s, DC8 s = true → s < 174 → (ovr DC8 A0 u).tmps[s]?.getD undef = u s := fun s h1 h2 => (getD_at _ _).symm.trans (eval_in h1 (by omega))
        obtain ⟨gt, C, uCp, hC, hgt, lgt, lC, neC⟩ := hF 6 (by decide)
        have x6 := (ev 40 rfl (by decide)).trans uCp
        have HS0 : Hid _ := sp_new (HP3.out.grow hB) hC hgt HH0.out (by omega) lgt lC neC (HP3.out)
        have HW1 : Hid _ := And.intro (HP3.out.grow hB).n0 (HP3.out.grow hB).n1
        have HLE0 : Hid (w.heap.size + 2 ≤ P ∧ w.heap.size + 2 ≤ g1 ∧ w.heap.size + 2 ≤ g2 ∧ w.heap.size + 2 ≤ g3 ∧ w.heap.size + 2 ≤ gt) := ⟨HP3.out.le.1, HP3.out.le.2.1, HP3.out.le.2.2.1, HP3.out.le.2.2.2, by have := HP3.out.le.1; have := lt_of_block HP3.out.np; omega⟩
        refine wp_value (w' := W) (v := .pointer (some ⟨C, 0, none⟩)) ?_ ⟨_, put_in (d := 5) rfl rfl u _, ?_⟩
        · simp only [execOp]
          go_simp
        · subst hA0
          clear hF hC hgt lgt lC neC HP3 ev x6 uCp
          simp [ovr, upd, DC8, List.range, List.range.loop]
          go_wp2_with fail
          go_loopw [6] (fun q wr => ∃ i : Nat, i ≤ 2 * hf H ∧ q = .int .i64 (i : Int) ∧ Sp H w W wr w.heap.size C P g1 g2 g3 gt k1 k2 k3 (2 * hf H) (.slice a1 H.row.length c1) (.slice a2 H.roots.length c2) (.slice a3 H.mourned.length c3) (.slice a4 H.seen.length c4) (.slice sa sn sc) (clearR H) 0 (minK (2 * hf H) i) H.roots H.mourned) (fun q _ => 2 * hf H - (intOf q).toNat)
          case atStart => exact ⟨0, Nat.zero_le _, rfl, HS0.out⟩
          case round =>
            obtain ⟨i, hi, rfl, hS⟩ := hrel
            obtain ⟨_, z9, z10⟩ := cyb_cells hS.c
            by_cases hlt : i < 2 * hf H
            · have hlt' : (i : Int) < ((2 * hf H : Nat) : Int) := by omega
              obtain ⟨x0, xf⟩ := own_cellAt hS.tol (q := i) (by rw [minK_len (by omega)]; exact hlt)
              have HS2 : Hid _ := hS.setTo HH0.out rfl i (-1)
              rw [minK_next hlt] at HS2
              clear hS
              go_wp2_with fail
              exact ⟨⟨i + 1, by omega, by go_num, HS2.out⟩, by simp [intOf]; omega⟩
            · have hin : i = 2 * hf H := by omega
              have hlt' : ¬ (i : Int) < ((2 * hf H : Nat) : Int) := by omega
              rw [hin, minK_end] at hS
              have HS3 : Hid (Sp H w W wr w.heap.size C P g1 g2 g3 gt k1 k2 k3 (2 * hf H) (.slice a1 H.row.length c1) (.slice a2 H.roots.length c2) (.slice a3 H.mourned.length c3) (.slice a4 H.seen.length c4) (.slice sa sn sc) (sv0 H).row (sv0 H).top (toL H (sv0 H)) H.roots H.mourned) := hS
              have HLE : Hid (w.heap.size + 2 ≤ P ∧ w.heap.size + 2 ≤ g1 ∧ w.heap.size + 2 ≤ g2 ∧ w.heap.size + 2 ≤ g3 ∧ w.heap.size + 2 ≤ gt) := HLE0.out
              clear hS hin
              go_wp2_with fail
              clear z9 z10 hlt hlt' hi
              go_loopw [7] (fun q wr => ∃ i : Nat, i ≤ H.roots.length ∧ q = .int .i64 (i : Int) ∧ Sp H w W wr w.heap.size C P g1 g2 g3 gt k1 k2 k3 (2 * hf H) (.slice a1 H.row.length c1) (.slice a2 H.roots.length c2) (.slice a3 H.mourned.length c3) (.slice a4 H.seen.length c4) (.slice sa sn sc) (leadL H (sv0 H) (H.roots.take i)).1.row (leadL H (sv0 H) (H.roots.take i)).1.top (toL H (leadL H (sv0 H) (H.roots.take i)).1) (lk H (sv0 H) H.roots i) H.mourned) (fun q _ => H.roots.length - (intOf q).toNat)
              case atStart => exact ⟨0, Nat.zero_le _, rfl, by rw [lk_zero]; exact HS3.out⟩
              case round =>
                obtain ⟨i, hi, rfl, hS⟩ := hrel
                have HS : Hid _ := hS
                obtain ⟨⟨z0, z1, z2, z3, z4⟩, ⟨z5, z6, z7, z8⟩, _⟩ := nine_cells (hS.read HW1.out.1 HLE.out)
                by_cases hlt : i < H.roots.length
                · have hlt' : (i : Int) < 6 := by have := HN.out.1.roots; omega
                  have hil : (i : Int) < (H.roots.length : Int) := by omega
                  obtain ⟨a', c', e', _, _, _, hcc⟩ := hS.was.2.1
                  injection e' with e1 e2 e3
                  subst e1 e3
                  obtain ⟨lb, lo, rfl, hlb, _⟩ := hcc (by omega)
                  have HXC : Hid (∀ V xr tt tl rs ms, Sp H w W V w.heap.size C P g1 g2 g3 gt k1 k2 k3 (2 * hf H) (.slice a1 H.row.length c1) (.slice (some ⟨lb, lo, none⟩) H.roots.length c2) (.slice a3 H.mourned.length c3) (.slice a4 H.seen.length c4) (.slice sa sn sc) xr tt tl rs ms → V.cell? ⟨lb, lo + i, none⟩ = some (.int .i64 (H.roots.getD i 0)) ∧ (V.cell? ⟨P, 5, none⟩ = some (.slice (some ⟨g2, 0, none⟩) H.roots.length k2) ∧ V.cell? ⟨P, 6, none⟩ = some (.slice (some ⟨g3, 0, none⟩) H.mourned.length k3)) ∧ V.cell? ⟨w.heap.size, 5, none⟩ = some (.slice (some ⟨lb, lo, none⟩) H.roots.length c2) ∧ V.cell? ⟨w.heap.size, 6, none⟩ = some (.slice a3 H.mourned.length c3)) := fun V xr tt tl rs ms hV => by
                    obtain ⟨⟨z0, z1, z2, z3, z4⟩, ⟨z5, z6, z7, z8⟩, _⟩ := nine_cells (hV.read HW1.out.1 HLE.out)
                    obtain ⟨⟨m0, m1, m2, m3, m4⟩, ⟨m5, m6, m7, m8⟩, _⟩ := nine_cells hV.nine
                    exact ⟨ints_cellS hV.was.2.1 hlt, ⟨m5, m6⟩, z5, z6⟩
                  have hxm : H.roots.getD i 0 ∈ H.roots := by rw [List.getD_eq_getElem?_getD, List.getElem?_eq_getElem hlt]; exact List.getElem_mem hlt
                  have HL : Hid (∀ V, Sp H w W V w.heap.size C P g1 g2 g3 gt k1 k2 k3 (2 * hf H) (.slice a1 H.row.length c1) (.slice (some ⟨lb, lo, none⟩) H.roots.length c2) (.slice a3 H.mourned.length c3) (.slice a4 H.seen.length c4) (.slice sa sn sc) (leadL H (sv0 H) (H.roots.take i)).1.row (leadL H (sv0 H) (H.roots.take i)).1.top (toL H (leadL H (sv0 H) (H.roots.take i)).1) (lk H (sv0 H) H.roots i) H.mourned → _) := fun V hV => l11Word_any HH0.out rfl HRR.out ((inv0 (ps := ps) HN.out.1).leadL HRR.out (xs := H.roots) (List.all_eq_true.1 HRR.out.roots) i hi).1 hV (H.roots.getD i 0) (List.all_eq_true.1 HRR.out.roots _ hxm)
                  have HNX : Hid _ := lk_next H (sv0 H) hlt
                  have HSX : Hid _ := leadL_next H (sv0 H) hlt
                  have HLN : Hid _ := lk_len H (sv0 H) hi
                  obtain ⟨s0, hs0⟩ : ∃ s0, (leadL H (sv0 H) (H.roots.take i)).1 = s0 := ⟨_, rfl⟩
                  obtain ⟨l0, hl0⟩ : ∃ l0, lk H (sv0 H) H.roots i = l0 := ⟨_, rfl⟩
                  obtain ⟨xw, hxw⟩ : ∃ xw, H.roots.getD i 0 = xw := ⟨_, rfl⟩
                  try simp only [hs0, hl0, hxw] at HS
                  try simp only [hs0, hl0, hxw] at HL
                  try simp only [hs0, hl0, hxw] at HNX
                  try simp only [hs0, hl0, hxw] at HSX
                  try simp only [hs0, hl0, hxw] at HXC
                  try simp only [hs0, hl0, hxw] at HLN
                  obtain ⟨yw, hyw⟩ : ∃ yw, (lead H s0 xw).2 = yw := ⟨_, rfl⟩
                  obtain ⟨s1, hs1⟩ : ∃ s1, (lead H s0 xw).1 = s1 := ⟨_, rfl⟩
                  unfold Led at HL
                  try simp only [hyw, hs1] at HL
                  try simp only [hyw, hs1] at HNX
                  try simp only [hyw, hs1] at HSX
                  clear hS hcc hxm hs0 hl0 hxw hyw hs1 e2
                  go_upto_region 16 with fail
                  clear z0 z1 z2 z3 z4 z5 z6 z7 z8
                  generalize hA0 : (Act.mk _ []) = A0
                  have e1 : A0.tmps.getD 1 undef = .pointer (some ⟨w.heap.size, 0, none⟩) := by rw [← hA0]; rfl
                  have e3 : A0.tmps.getD 3 undef = .pointer (some ⟨P, 0, none⟩) := by rw [← hA0]; rfl
                  have e5 : A0.tmps.getD 5 undef = .pointer (some ⟨C, 0, none⟩) := by rw [← hA0]; rfl
                  have e7 : A0.tmps.getD 7 undef = .int .i64 (i : Int) := by rw [← hA0]; rfl
                  have sz : A0.tmps.size = 174 := by rw [← hA0]; rfl
                  refine wp_region_once (by kernel_rfl) DR6 (by simp) ?_ 11 9 rfl (by decide) dR6 dR6_inj (FR6 H w P C g2 k2 lb lo c2 i xw yw) (fun V => Sp H w W V w.heap.size C P g1 g2 g3 gt k1 k2 k3 (2 * hf H) (.slice a1 H.row.length c1) (.slice (some ⟨lb, lo, none⟩) H.roots.length c2) (.slice a3 H.mourned.length c3) (.slice a4 H.seen.length c4) (.slice sa sn sc) s0.row s0.top (toL H s0) l0 H.mourned) (fun V => Sp H w W V w.heap.size C P g1 g2 g3 gt k1 k2 k3 (2 * hf H) (.slice a1 H.row.length c1) (.slice (some ⟨lb, lo, none⟩) H.roots.length c2) (.slice a3 H.mourned.length c3) (.slice a4 H.seen.length c4) (.slice sa sn sc) s1.row s1.top (toL H s1) l0 H.mourned) (HS.out.grow (Below.refl _ _).drew) ?_ ?_ ?_ ?_
                  · intro k o ho
                    have hk : k < 12 := (Array.getElem?_eq_some_iff.1 ho).1
                    rcases (show k = 0 ∨ k = 1 ∨ k = 2 ∨ k = 3 ∨ k = 4 ∨ k = 5 ∨ k = 6 ∨ k = 7 ∨ k = 8 ∨ k = 9 ∨ k = 10 ∨ k = 11 by omega) with rfl | rfl | rfl | rfl | rfl | rfl | rfl | rfl | rfl | rfl | rfl | rfl <;> (obtain rfl := Option.some.inj ho; simp [Region.binds])
                  · intro o ho kk hkk
                    obtain rfl := Option.some.inj ho
                    rcases (show kk = 0 ∨ kk = 1 ∨ kk = 2 ∨ kk = 3 ∨ kk = 4 ∨ kk = 5 ∨ kk = 6 ∨ kk = 7 ∨ kk = 8 ∨ kk = 9 ∨ kk = 10 by omega) with rfl | rfl | rfl | rfl | rfl | rfl | rfl | rfl | rfl | rfl | rfl <;> simp [Region.binds]
                  · intro k o u W hk hkc ho hAB hF
                    have ev : ∀ s, DR6 s = true → s < 174 → (ovr DR6 A0 u).tmps[s]?.getD undef = u s := fun s h1 h2 => (getD_at _ _).symm.trans (eval_in h1 (by omega))
                    have o1 : (ovr DR6 A0 u).tmps[1]?.getD undef = _ := (getD_at _ _).symm.trans ((eval_out (D := DR6) (a0 := A0) (u := u) (s := 1) rfl (by omega)).trans e1)
                    have o3 : (ovr DR6 A0 u).tmps[3]?.getD undef = _ := (getD_at _ _).symm.trans ((eval_out (D := DR6) (a0 := A0) (u := u) (s := 3) rfl (by omega)).trans e3)
                    have o5 : (ovr DR6 A0 u).tmps[5]?.getD undef = _ := (getD_at _ _).symm.trans ((eval_out (D := DR6) (a0 := A0) (u := u) (s := 5) rfl (by omega)).trans e5)
                    have o7 : (ovr DR6 A0 u).tmps[7]?.getD undef = _ := (getD_at _ _).symm.trans ((eval_out (D := DR6) (a0 := A0) (u := u) (s := 7) rfl (by omega)).trans e7)
                    obtain ⟨x0, ⟨m5, m6⟩, z5, z6⟩ := hAB.elim (HXC.out W _ _ _ _ _) (HXC.out W _ _ _ _ _)
                    rcases (show k = 0 ∨ k = 1 ∨ k = 2 ∨ k = 3 ∨ k = 4 ∨ k = 5 ∨ k = 6 ∨ k = 7 ∨ k = 8 ∨ k = 9 ∨ k = 10 by omega) with rfl | rfl | rfl | rfl | rfl | rfl | rfl | rfl | rfl | rfl | rfl
                    all_goals obtain rfl := Option.some.inj ho
                    · refine onceV (v := .pointer (some ⟨P, 5, none⟩)) rfl rfl ?_ rfl
                      simp only [execOp]
                      go_simp
                      try go_num
                      try (rw [IntKind.wrap_i64]; omega)
                    · have x0 := (ev 60 rfl (by decide)).trans (hF 0 (by decide) (by simp [Region.binds]))
                      refine onceV (v := .slice (some ⟨g2, 0, none⟩) H.roots.length k2) rfl rfl ?_ rfl
                      simp only [execOp]
                      go_simp
                      try go_num
                      try (rw [IntKind.wrap_i64]; omega)
                    · refine onceV (v := .int .i64 (i : Int)) rfl rfl ?_ rfl
                      simp only [execOp]
                      go_simp
                      try go_num
                      try (rw [IntKind.wrap_i64]; omega)
                    · refine onceV (v := .pointer (some ⟨C, 0, none⟩)) rfl rfl ?_ rfl
                      simp only [execOp]
                      go_simp
                      try go_num
                      try (rw [IntKind.wrap_i64]; omega)
                    · refine onceV (v := .pointer (some ⟨w.heap.size, 5, none⟩)) rfl rfl ?_ rfl
                      simp only [execOp]
                      go_simp
                      try go_num
                      try (rw [IntKind.wrap_i64]; omega)
                    · have x4 := (ev 64 rfl (by decide)).trans (hF 4 (by decide) (by simp [Region.binds]))
                      refine onceV (v := .slice (some ⟨lb, lo, none⟩) H.roots.length c2) rfl rfl ?_ rfl
                      simp only [execOp]
                      go_simp
                      try go_num
                      try (rw [IntKind.wrap_i64]; omega)
                    · refine onceV (v := .int .i64 (i : Int)) rfl rfl ?_ rfl
                      simp only [execOp]
                      go_simp
                      try go_num
                      try (rw [IntKind.wrap_i64]; omega)
                    · have x5 := (ev 65 rfl (by decide)).trans (hF 5 (by decide) (by simp [Region.binds]))
                      have x6 := (ev 66 rfl (by decide)).trans (hF 6 (by decide) (by simp [Region.binds]))
                      refine onceV (v := .pointer (some ⟨lb, lo + i, none⟩)) rfl rfl ?_ rfl
                      simp only [execOp]
                      go_simp
                      try go_num
                      try (rw [IntKind.wrap_i64]; omega)
                    · have x7 := (ev 67 rfl (by decide)).trans (hF 7 (by decide) (by simp [Region.binds]))
                      refine onceV (v := .int .i64 xw) rfl rfl ?_ rfl
                      simp only [execOp]
                      go_simp
                      try go_num
                      try (rw [IntKind.wrap_i64]; omega)
                    · exact absurd rfl hkc
                    · have x1 := (ev 61 rfl (by decide)).trans (hF 1 (by decide) (by simp [Region.binds]))
                      have x2 := (ev 62 rfl (by decide)).trans (hF 2 (by decide) (by simp [Region.binds]))
                      refine onceV (v := .pointer (some ⟨g2, i, none⟩)) rfl rfl ?_ rfl
                      simp only [execOp]
                      go_simp
                      try go_num
                      try (rw [IntKind.wrap_i64]; omega)
                  · intro o u W ho hAW hF
                    obtain rfl := Option.some.inj ho
                    have ev : ∀ s, DR6 s = true → s < 174 → (ovr DR6 A0 u).tmps[s]?.getD undef = u s := fun s h1 h2 => (getD_at _ _).symm.trans (eval_in h1 (by omega))
                    have o1 : (ovr DR6 A0 u).tmps[1]?.getD undef = _ := (getD_at _ _).symm.trans ((eval_out (D := DR6) (a0 := A0) (u := u) (s := 1) rfl (by omega)).trans e1)
                    have o3 : (ovr DR6 A0 u).tmps[3]?.getD undef = _ := (getD_at _ _).symm.trans ((eval_out (D := DR6) (a0 := A0) (u := u) (s := 3) rfl (by omega)).trans e3)
                    have o5 : (ovr DR6 A0 u).tmps[5]?.getD undef = _ := (getD_at _ _).symm.trans ((eval_out (D := DR6) (a0 := A0) (u := u) (s := 5) rfl (by omega)).trans e5)
                    have o7 : (ovr DR6 A0 u).tmps[7]?.getD undef = _ := (getD_at _ _).symm.trans ((eval_out (D := DR6) (a0 := A0) (u := u) (s := 7) rfl (by omega)).trans e7)
                    have x3 := (ev 63 rfl (by decide)).trans (hF 3 (by decide) (by simp [Region.binds]))
                    have x8 := (ev 68 rfl (by decide)).trans (hF 8 (by decide) (by simp [Region.binds]))
                    refine onceC (f := 71) (args := #[.pointer (some ⟨C, 0, none⟩), .int .i64 xw]) rfl rfl ?_ ((HL.out W hAW).mono ?_)
                    · simp only [execOp]
                      go_simp
                    · rintro e w' ⟨rfl, hS'⟩
                      exact ⟨_, rfl, hS', rfl⟩
                  · intro o u W ho hBW hF
                    obtain rfl := Option.some.inj ho
                    have ev : ∀ s, DR6 s = true → s < 174 → (ovr DR6 A0 u).tmps[s]?.getD undef = u s := fun s h1 h2 => (getD_at _ _).symm.trans (eval_in h1 (by omega))
                    have o1 : (ovr DR6 A0 u).tmps[1]?.getD undef = _ := (getD_at _ _).symm.trans ((eval_out (D := DR6) (a0 := A0) (u := u) (s := 1) rfl (by omega)).trans e1)
                    have o3 : (ovr DR6 A0 u).tmps[3]?.getD undef = _ := (getD_at _ _).symm.trans ((eval_out (D := DR6) (a0 := A0) (u := u) (s := 3) rfl (by omega)).trans e3)
                    have o5 : (ovr DR6 A0 u).tmps[5]?.getD undef = _ := (getD_at _ _).symm.trans ((eval_out (D := DR6) (a0 := A0) (u := u) (s := 5) rfl (by omega)).trans e5)
                    have o7 : (ovr DR6 A0 u).tmps[7]?.getD undef = _ := (getD_at _ _).symm.trans ((eval_out (D := DR6) (a0 := A0) (u := u) (s := 7) rfl (by omega)).trans e7)
                    have x9 := (ev 69 rfl (by decide)).trans (hF 9 (by decide))
                    have x10 := (ev 70 rfl (by decide)).trans (hF 10 (by decide))
                    obtain ⟨c0, cf⟩ := own_cellAt hBW.roots (q := i) (by rw [HLN.out]; exact hlt)
                    have HS9 : Hid _ := hBW.setRoot HH0.out rfl i yw
                    rw [HNX.out] at HS9
                    refine plainS (W' := W.setCell ⟨g2, i, none⟩ (.int .i64 yw)) rfl ?_ ?_
                    · simp only [execOp]
                      go_simp
                    · subst hA0
                      clear hBW ev c0 cf x9 x10
                      have HSF : Hid _ := HSX.out
                      simp [ovr, DR6, List.range, List.range.loop]
                      go_wp2_with fail
                      refine ⟨⟨i + 1, by omega, by go_num, ?_⟩, by simp [intOf]; omega⟩
                      rw [HSF.out]
                      exact HS9.out
                · have hie : i = H.roots.length := by omega
                  have hlt' : ¬ (i : Int) < 6 := by have := HN.out.1.roots; omega
                  rw [hie, List.take_length, lk_end] at HS
                  clear hS hie
                  have HS4 : Hid (Sp H w W wr w.heap.size C P g1 g2 g3 gt k1 k2 k3 (2 * hf H) (.slice a1 H.row.length c1) (.slice a2 H.roots.length c2) (.slice a3 H.mourned.length c3) (.slice a4 H.seen.length c4) (.slice sa sn sc) (scA H).1.row (scA H).1.top (toL H (scA H).1) (scA H).2 H.mourned) := HS.out
                  clear HS
                  go_wp2_with fail
                  clear hlt hlt' hi z0 z1 z2 z3 z4 z5 z6 z7 z8
                  go_loopw [8] (fun q wr => ∃ i : Nat, i ≤ H.mourned.length ∧ q = .int .i64 (i : Int) ∧ Sp H w W wr w.heap.size C P g1 g2 g3 gt k1 k2 k3 (2 * hf H) (.slice a1 H.row.length c1) (.slice a2 H.roots.length c2) (.slice a3 H.mourned.length c3) (.slice a4 H.seen.length c4) (.slice sa sn sc) (leadL H (scA H).1 (H.mourned.take i)).1.row (leadL H (scA H).1 (H.mourned.take i)).1.top (toL H (leadL H (scA H).1 (H.mourned.take i)).1) (scA H).2 (lk H (scA H).1 H.mourned i)) (fun q _ => H.mourned.length - (intOf q).toNat)
                  case atStart => exact ⟨0, Nat.zero_le _, rfl, by rw [lk_zero]; exact HS4.out⟩
                  case round =>
                    obtain ⟨i, hi, rfl, hS⟩ := hrel
                    have HS : Hid _ := hS
                    obtain ⟨⟨z0, z1, z2, z3, z4⟩, ⟨z5, z6, z7, z8⟩, _⟩ := nine_cells (hS.read HW1.out.1 HLE.out)
                    by_cases hlt : i < H.mourned.length
                    · have hlt' : (i : Int) < (H.mourned.length : Int) := by omega
                      have hil : (i : Int) < (H.mourned.length : Int) := by omega
                      obtain ⟨a', c', e', _, _, _, hcc⟩ := hS.was.2.2.1
                      injection e' with e1 e2 e3
                      subst e1 e3
                      obtain ⟨lb, lo, rfl, hlb, _⟩ := hcc (by omega)
                      have HXC : Hid (∀ V xr tt tl rs ms, Sp H w W V w.heap.size C P g1 g2 g3 gt k1 k2 k3 (2 * hf H) (.slice a1 H.row.length c1) (.slice a2 H.roots.length c2) (.slice (some ⟨lb, lo, none⟩) H.mourned.length c3) (.slice a4 H.seen.length c4) (.slice sa sn sc) xr tt tl rs ms → V.cell? ⟨lb, lo + i, none⟩ = some (.int .i64 (H.mourned.getD i 0)) ∧ (V.cell? ⟨P, 5, none⟩ = some (.slice (some ⟨g2, 0, none⟩) H.roots.length k2) ∧ V.cell? ⟨P, 6, none⟩ = some (.slice (some ⟨g3, 0, none⟩) H.mourned.length k3)) ∧ V.cell? ⟨w.heap.size, 5, none⟩ = some (.slice a2 H.roots.length c2) ∧ V.cell? ⟨w.heap.size, 6, none⟩ = some (.slice (some ⟨lb, lo, none⟩) H.mourned.length c3)) := fun V xr tt tl rs ms hV => by
                        obtain ⟨⟨z0, z1, z2, z3, z4⟩, ⟨z5, z6, z7, z8⟩, _⟩ := nine_cells (hV.read HW1.out.1 HLE.out)
                        obtain ⟨⟨m0, m1, m2, m3, m4⟩, ⟨m5, m6, m7, m8⟩, _⟩ := nine_cells hV.nine
                        exact ⟨ints_cellS hV.was.2.2.1 hlt, ⟨m5, m6⟩, z5, z6⟩
                      have hxm : H.mourned.getD i 0 ∈ H.mourned := by rw [List.getD_eq_getElem?_getD, List.getElem?_eq_getElem hlt]; exact List.getElem_mem hlt
                      have HL : Hid (∀ V, Sp H w W V w.heap.size C P g1 g2 g3 gt k1 k2 k3 (2 * hf H) (.slice a1 H.row.length c1) (.slice a2 H.roots.length c2) (.slice (some ⟨lb, lo, none⟩) H.mourned.length c3) (.slice a4 H.seen.length c4) (.slice sa sn sc) (leadL H (scA H).1 (H.mourned.take i)).1.row (leadL H (scA H).1 (H.mourned.take i)).1.top (toL H (leadL H (scA H).1 (H.mourned.take i)).1) (scA H).2 (lk H (scA H).1 H.mourned i) → _) := fun V hV => l11Word_any HH0.out rfl HRR.out ((inv_A HRR.out).leadL HRR.out (mourn_word HRR.out) i hi).1 hV (H.mourned.getD i 0) (mourn_word HRR.out _ hxm)
                      have HNX : Hid _ := lk_next H (scA H).1 hlt
                      have HSX : Hid _ := leadL_next H (scA H).1 hlt
                      have HLN : Hid _ := lk_len H (scA H).1 hi
                      obtain ⟨s0, hs0⟩ : ∃ s0, (leadL H (scA H).1 (H.mourned.take i)).1 = s0 := ⟨_, rfl⟩
                      obtain ⟨l0, hl0⟩ : ∃ l0, lk H (scA H).1 H.mourned i = l0 := ⟨_, rfl⟩
                      obtain ⟨xw, hxw⟩ : ∃ xw, H.mourned.getD i 0 = xw := ⟨_, rfl⟩
                      try simp only [hs0, hl0, hxw] at HS
                      try simp only [hs0, hl0, hxw] at HL
                      try simp only [hs0, hl0, hxw] at HNX
                      try simp only [hs0, hl0, hxw] at HSX
                      try simp only [hs0, hl0, hxw] at HXC
                      try simp only [hs0, hl0, hxw] at HLN
                      obtain ⟨yw, hyw⟩ : ∃ yw, (lead H s0 xw).2 = yw := ⟨_, rfl⟩
                      obtain ⟨s1, hs1⟩ : ∃ s1, (lead H s0 xw).1 = s1 := ⟨_, rfl⟩
                      unfold Led at HL
                      try simp only [hyw, hs1] at HL
                      try simp only [hyw, hs1] at HNX
                      try simp only [hyw, hs1] at HSX
                      clear hS hcc hxm hs0 hl0 hxw hyw hs1 e2
                      go_upto_region 20 with fail
                      clear z0 z1 z2 z3 z4 z5 z6 z7 z8
                      generalize hA0 : (Act.mk _ []) = A0
                      have e1 : A0.tmps.getD 1 undef = .pointer (some ⟨w.heap.size, 0, none⟩) := by rw [← hA0]; rfl
                      have e3 : A0.tmps.getD 3 undef = .pointer (some ⟨P, 0, none⟩) := by rw [← hA0]; rfl
                      have e5 : A0.tmps.getD 5 undef = .pointer (some ⟨C, 0, none⟩) := by rw [← hA0]; rfl
                      have e8 : A0.tmps.getD 8 undef = .int .i64 (i : Int) := by rw [← hA0]; rfl
                      have sz : A0.tmps.size = 174 := by rw [← hA0]; rfl
                      refine wp_region_once (by kernel_rfl) DR0 (by simp) ?_ 11 9 rfl (by decide) dR0 dR0_inj (FR0 H w P C g3 k3 lb lo c3 i xw yw) (fun V => Sp H w W V w.heap.size C P g1 g2 g3 gt k1 k2 k3 (2 * hf H) (.slice a1 H.row.length c1) (.slice a2 H.roots.length c2) (.slice (some ⟨lb, lo, none⟩) H.mourned.length c3) (.slice a4 H.seen.length c4) (.slice sa sn sc) s0.row s0.top (toL H s0) (scA H).2 l0) (fun V => Sp H w W V w.heap.size C P g1 g2 g3 gt k1 k2 k3 (2 * hf H) (.slice a1 H.row.length c1) (.slice a2 H.roots.length c2) (.slice (some ⟨lb, lo, none⟩) H.mourned.length c3) (.slice a4 H.seen.length c4) (.slice sa sn sc) s1.row s1.top (toL H s1) (scA H).2 l0) (HS.out.grow (Below.refl _ _).drew) ?_ ?_ ?_ ?_
                      · intro k o ho
                        have hk : k < 12 := (Array.getElem?_eq_some_iff.1 ho).1
                        rcases (show k = 0 ∨ k = 1 ∨ k = 2 ∨ k = 3 ∨ k = 4 ∨ k = 5 ∨ k = 6 ∨ k = 7 ∨ k = 8 ∨ k = 9 ∨ k = 10 ∨ k = 11 by omega) with rfl | rfl | rfl | rfl | rfl | rfl | rfl | rfl | rfl | rfl | rfl | rfl <;> (obtain rfl := Option.some.inj ho; simp [Region.binds])
                      · intro o ho kk hkk
                        obtain rfl := Option.some.inj ho
                        rcases (show kk = 0 ∨ kk = 1 ∨ kk = 2 ∨ kk = 3 ∨ kk = 4 ∨ kk = 5 ∨ kk = 6 ∨ kk = 7 ∨ kk = 8 ∨ kk = 9 ∨ kk = 10 by omega) with rfl | rfl | rfl | rfl | rfl | rfl | rfl | rfl | rfl | rfl | rfl <;> simp [Region.binds]
                      · intro k o u W hk hkc ho hAB hF
                        have ev : ∀ s, DR0 s = true → s < 174 → (ovr DR0 A0 u).tmps[s]?.getD undef = u s := fun s h1 h2 => (getD_at _ _).symm.trans (eval_in h1 (by omega))
                        have o1 : (ovr DR0 A0 u).tmps[1]?.getD undef = _ := (getD_at _ _).symm.trans ((eval_out (D := DR0) (a0 := A0) (u := u) (s := 1) rfl (by omega)).trans e1)
                        have o3 : (ovr DR0 A0 u).tmps[3]?.getD undef = _ := (getD_at _ _).symm.trans ((eval_out (D := DR0) (a0 := A0) (u := u) (s := 3) rfl (by omega)).trans e3)
                        have o5 : (ovr DR0 A0 u).tmps[5]?.getD undef = _ := (getD_at _ _).symm.trans ((eval_out (D := DR0) (a0 := A0) (u := u) (s := 5) rfl (by omega)).trans e5)
                        have o8 : (ovr DR0 A0 u).tmps[8]?.getD undef = _ := (getD_at _ _).symm.trans ((eval_out (D := DR0) (a0 := A0) (u := u) (s := 8) rfl (by omega)).trans e8)
                        obtain ⟨x0, ⟨m5, m6⟩, z5, z6⟩ := hAB.elim (HXC.out W _ _ _ _ _) (HXC.out W _ _ _ _ _)
                        rcases (show k = 0 ∨ k = 1 ∨ k = 2 ∨ k = 3 ∨ k = 4 ∨ k = 5 ∨ k = 6 ∨ k = 7 ∨ k = 8 ∨ k = 9 ∨ k = 10 by omega) with rfl | rfl | rfl | rfl | rfl | rfl | rfl | rfl | rfl | rfl | rfl
                        all_goals obtain rfl := Option.some.inj ho
                        · refine onceV (v := .pointer (some ⟨P, 6, none⟩)) rfl rfl ?_ rfl
                          simp only [execOp]
                          go_simp
                          try go_num
                          try (rw [IntKind.wrap_i64]; omega)
                        · have x0 := (ev 78 rfl (by decide)).trans (hF 0 (by decide) (by simp [Region.binds]))
                          refine onceV (v := .slice (some ⟨g3, 0, none⟩) H.mourned.length k3) rfl rfl ?_ rfl
                          simp only [execOp]
                          go_simp
                          try go_num
                          try (rw [IntKind.wrap_i64]; omega)
                        · refine onceV (v := .int .i64 (i : Int)) rfl rfl ?_ rfl
                          simp only [execOp]
                          go_simp
                          try go_num
                          try (rw [IntKind.wrap_i64]; omega)
                        · refine onceV (v := .pointer (some ⟨C, 0, none⟩)) rfl rfl ?_ rfl
                          simp only [execOp]
                          go_simp
                          try go_num
                          try (rw [IntKind.wrap_i64]; omega)
                        · refine onceV (v := .pointer (some ⟨w.heap.size, 6, none⟩)) rfl rfl ?_ rfl
                          simp only [execOp]
                          go_simp
                          try go_num
                          try (rw [IntKind.wrap_i64]; omega)
                        · have x4 := (ev 82 rfl (by decide)).trans (hF 4 (by decide) (by simp [Region.binds]))
                          refine onceV (v := .slice (some ⟨lb, lo, none⟩) H.mourned.length c3) rfl rfl ?_ rfl
                          simp only [execOp]
                          go_simp
                          try go_num
                          try (rw [IntKind.wrap_i64]; omega)
                        · refine onceV (v := .int .i64 (i : Int)) rfl rfl ?_ rfl
                          simp only [execOp]
                          go_simp
                          try go_num
                          try (rw [IntKind.wrap_i64]; omega)
                        · have x5 := (ev 83 rfl (by decide)).trans (hF 5 (by decide) (by simp [Region.binds]))
                          have x6 := (ev 84 rfl (by decide)).trans (hF 6 (by decide) (by simp [Region.binds]))
                          refine onceV (v := .pointer (some ⟨lb, lo + i, none⟩)) rfl rfl ?_ rfl
                          simp only [execOp]
                          go_simp
                          try go_num
                          try (rw [IntKind.wrap_i64]; omega)
                        · have x7 := (ev 85 rfl (by decide)).trans (hF 7 (by decide) (by simp [Region.binds]))
                          refine onceV (v := .int .i64 xw) rfl rfl ?_ rfl
                          simp only [execOp]
                          go_simp
                          try go_num
                          try (rw [IntKind.wrap_i64]; omega)
                        · exact absurd rfl hkc
                        · have x1 := (ev 79 rfl (by decide)).trans (hF 1 (by decide) (by simp [Region.binds]))
                          have x2 := (ev 80 rfl (by decide)).trans (hF 2 (by decide) (by simp [Region.binds]))
                          refine onceV (v := .pointer (some ⟨g3, i, none⟩)) rfl rfl ?_ rfl
                          simp only [execOp]
                          go_simp
                          try go_num
                          try (rw [IntKind.wrap_i64]; omega)
                      · intro o u W ho hAW hF
                        obtain rfl := Option.some.inj ho
                        have ev : ∀ s, DR0 s = true → s < 174 → (ovr DR0 A0 u).tmps[s]?.getD undef = u s := fun s h1 h2 => (getD_at _ _).symm.trans (eval_in h1 (by omega))
                        have o1 : (ovr DR0 A0 u).tmps[1]?.getD undef = _ := (getD_at _ _).symm.trans ((eval_out (D := DR0) (a0 := A0) (u := u) (s := 1) rfl (by omega)).trans e1)
                        have o3 : (ovr DR0 A0 u).tmps[3]?.getD undef = _ := (getD_at _ _).symm.trans ((eval_out (D := DR0) (a0 := A0) (u := u) (s := 3) rfl (by omega)).trans e3)
                        have o5 : (ovr DR0 A0 u).tmps[5]?.getD undef = _ := (getD_at _ _).symm.trans ((eval_out (D := DR0) (a0 := A0) (u := u) (s := 5) rfl (by omega)).trans e5)
                        have o8 : (ovr DR0 A0 u).tmps[8]?.getD undef = _ := (getD_at _ _).symm.trans ((eval_out (D := DR0) (a0 := A0) (u := u) (s := 8) rfl (by omega)).trans e8)
                        have x3 := (ev 81 rfl (by decide)).trans (hF 3 (by decide) (by simp [Region.binds]))
                        have x8 := (ev 86 rfl (by decide)).trans (hF 8 (by decide) (by simp [Region.binds]))
                        refine onceC (f := 71) (args := #[.pointer (some ⟨C, 0, none⟩), .int .i64 xw]) rfl rfl ?_ ((HL.out W hAW).mono ?_)
                        · simp only [execOp]
                          go_simp
                        · rintro e w' ⟨rfl, hS'⟩
                          exact ⟨_, rfl, hS', rfl⟩
                      · intro o u W ho hBW hF
                        obtain rfl := Option.some.inj ho
                        have ev : ∀ s, DR0 s = true → s < 174 → (ovr DR0 A0 u).tmps[s]?.getD undef = u s := fun s h1 h2 => (getD_at _ _).symm.trans (eval_in h1 (by omega))
                        have o1 : (ovr DR0 A0 u).tmps[1]?.getD undef = _ := (getD_at _ _).symm.trans ((eval_out (D := DR0) (a0 := A0) (u := u) (s := 1) rfl (by omega)).trans e1)
                        have o3 : (ovr DR0 A0 u).tmps[3]?.getD undef = _ := (getD_at _ _).symm.trans ((eval_out (D := DR0) (a0 := A0) (u := u) (s := 3) rfl (by omega)).trans e3)
                        have o5 : (ovr DR0 A0 u).tmps[5]?.getD undef = _ := (getD_at _ _).symm.trans ((eval_out (D := DR0) (a0 := A0) (u := u) (s := 5) rfl (by omega)).trans e5)
                        have o8 : (ovr DR0 A0 u).tmps[8]?.getD undef = _ := (getD_at _ _).symm.trans ((eval_out (D := DR0) (a0 := A0) (u := u) (s := 8) rfl (by omega)).trans e8)
                        have x9 := (ev 87 rfl (by decide)).trans (hF 9 (by decide))
                        have x10 := (ev 88 rfl (by decide)).trans (hF 10 (by decide))
                        obtain ⟨c0, cf⟩ := own_cellAt hBW.mour (q := i) (by rw [HLN.out]; exact hlt)
                        have HS9 : Hid _ := hBW.setMour HH0.out rfl i yw
                        rw [HNX.out] at HS9
                        refine plainS (W' := W.setCell ⟨g3, i, none⟩ (.int .i64 yw)) rfl ?_ ?_
                        · simp only [execOp]
                          go_simp
                        · subst hA0
                          clear hBW ev c0 cf x9 x10
                          have HSF : Hid _ := HSX.out
                          simp [ovr, DR0, List.range, List.range.loop]
                          go_wp2_with fail
                          refine ⟨⟨i + 1, by omega, by go_num, ?_⟩, by simp [intOf]; omega⟩
                          rw [HSF.out]
                          exact HS9.out
                    · have hie : i = H.mourned.length := by omega
                      have hlt' : ¬ (i : Int) < (H.mourned.length : Int) := by omega
                      rw [hie, List.take_length, lk_end] at HS
                      clear hS hie
                      have HS5 : Hid (Sp H w W wr w.heap.size C P g1 g2 g3 gt k1 k2 k3 (2 * hf H) (.slice a1 H.row.length c1) (.slice a2 H.roots.length c2) (.slice a3 H.mourned.length c3) (.slice a4 H.seen.length c4) (.slice sa sn sc) (scB H).1.row (scB H).1.top (toL H (scB H).1) (scA H).2 (scB H).2) := HS.out
                      clear HS
                      go_wp2_with fail
                      clear hlt hlt' hi z0 z1 z2 z3 z4 z5 z6 z7 z8
                      go_loopw [9] (fun q wr => ∃ k : Nat, k ≤ H.seen.length ∧ q = .int .i64 (k : Int) ∧ Sp H w W wr w.heap.size C P g1 g2 g3 gt k1 k2 k3 (2 * hf H) (.slice a1 H.row.length c1) (.slice a2 H.roots.length c2) (.slice a3 H.mourned.length c3) (.slice a4 H.seen.length c4) (.slice sa sn sc) (seenS H (scB H).1 ((seenL H).take k)).row (seenS H (scB H).1 ((seenL H).take k)).top (toL H (seenS H (scB H).1 ((seenL H).take k))) (scA H).2 (scB H).2) (fun q _ => H.seen.length - (intOf q).toNat)
                      case atStart => exact ⟨0, Nat.zero_le _, rfl, HS5.out⟩
                      case round =>
                        obtain ⟨k, hk, rfl, hS⟩ := hrel
                        have HS : Hid _ := hS
                        obtain ⟨⟨z0, z1, z2, z3, z4⟩, ⟨z5, z6, z7, z8⟩, _⟩ := nine_cells (hS.read HW1.out.1 HLE.out)
                        by_cases hlt : k < H.seen.length
                        · have hlt' : (k : Int) < (H.seen.length : Int) := by omega
                          have hk1 : k + 1 ≤ H.seen.length := hlt
                          have HK1 : Hid _ := hk1
                          have hkS : k < (seenL H).length := by rw [← HSN.out]; exact hlt
                          have hsm : H.seen.getD k 0 ∈ seenL H := by rw [HSN.out, List.getD_eq_getElem?_getD, List.getElem?_eq_getElem hkS]; exact List.getElem_mem hkS
                          have hse : (seenL H).getD k 0 = H.seen.getD k 0 := by rw [HSN.out]
                          obtain ⟨p, ep, hpm, hp2, hp6⟩ := seen_mem HRR.out hsm
                          obtain ⟨a', c', e', _, _, _, hcc⟩ := hS.was.2.2.2
                          injection e' with e1 e2 e3
                          subst e1 e3
                          obtain ⟨lb, lo, rfl, hlb, hcc⟩ := hcc (by omega)
                          have x0 := hcc k hlt
                          rw [ep] at x0
                          obtain ⟨_, ep2, hpl, hpc⟩ := HRR.out.plc _ hpm
                          obtain rfl : p = _ := by exact_mod_cast ep2
                          have hcn0 := slots_len (H := H) hpc
                          have hse6 := slots_end hpc hp6
                          have hcb6 := chunk_bounds H.row p
                          have HI5 : Hid _ := ((inv_B HRR.out).seen HRR.out k (by omega)).1
                          have HAP : Hid (∀ j, j < (slotsOf H (p : Int)).length → ¬ DS H ((seenL H).take k) (p + 1 + j)) := fun j hj => by
                            have := seen_apart HRR.out hkS (j := j) (by rw [hse, ep]; exact hj)
                            rwa [hse, ep, Int.toNat_natCast] at this
                          have HSL : Hid (∀ s j, j < (slotsOf H (p : Int)).length → Slot H ps s (p + 1 + j) ((slotsOf H (p : Int)).getD j 0)) := fun s j hj => up_slot HRR.out s hpm hp2 hp6 hj
                          have HNX5 : Hid (seenS H (scB H).1 ((seenL H).take (k + 1)) = slotsK H (seenS H (scB H).1 ((seenL H).take k)) (p + 1) (slotsOf H (p : Int)).length) := by show _ = _; rw [seenS_next H _ hkS, hse, ep, Int.toNat_natCast]
                          have hcnv : (if uF (H.row.getD p 0) = 7 then (1 : Int) else if uF (H.row.getD p 0) = 6 then 0 else uS (H.row.getD p 0)) = ((slotsOf H (p : Int)).length : Int) := by
                            have hc2 := uS_bounds (H.row.getD p 0)
                            rw [hcn0]
                            unfold cnS
                            by_cases h7 : uF (H.row.getD p 0) = 7
                            · rw [if_pos h7]; rfl
                            · rw [if_neg h7, if_neg hp6]; omega
                          have HLC : Hid (∀ V, Calls Tryz.prog 72 #[hv (uS (H.row.getD p 0)) (uF (H.row.getD p 0)) (uC (H.row.getD p 0)) (uH (H.row.getD p 0)) (uP (H.row.getD p 0)) (uM (H.row.getD p 0))] V fun e w' => e = .returned (.int .i64 ((slotsOf H (p : Int)).length : Int)) ∧ Below V.heap.size V w') := fun V => (l4Count_any _ _ _ _ _ _ V).mono (fun e w' hh => by
                            obtain ⟨he, hw⟩ := hh
                            rw [hcnv] at he
                            exact ⟨he, by rw [hw]; exact (Below.refl _ _).alloc (Nat.le_refl _) _⟩)
                          have HLH : Hid (∀ V, HpAt V (.slice a1 H.row.length c1) (.slice a2 H.roots.length c2) (.slice a3 H.mourned.length c3) (.slice (some ⟨lb, lo, none⟩) H.seen.length c4) H → Calls Tryz.prog 55 #[.slice a1 H.row.length c1, .int .i64 (p : Int)] V fun e w' => e = .returned (hv (uS (H.row.getD p 0)) (uF (H.row.getD p 0)) (uC (H.row.getD p 0)) (uH (H.row.getD p 0)) (uP (H.row.getD p 0)) (uM (H.row.getD p 0))) ∧ Below V.heap.size V w') := fun V hV => l4Head_any hV.1 p hpl
                          have hcl : (slotsOf H (p : Int)).length ≤ 1000 ∧ p + 1 + (slotsOf H (p : Int)).length ≤ H.row.length ∧ H.row.length ≤ 1000 := by have := HRR.out.len; omega
                          have HSW : Hid (∀ j, j < (slotsOf H (p : Int)).length → wordIn H ps ((slotsOf H (p : Int)).getD j 0) = true) := fun j hj => slots_word HRR.out hpm hj
                          have HSG : Hid (∀ j, j < (slotsOf H (p : Int)).length → (slotsOf H (p : Int)).getD j 0 = H.row.getD (p + 1 + j) 0) := fun j hj => slots_get hj
                          obtain ⟨s5, hs5⟩ : ∃ s5, (seenS H (scB H).1 ((seenL H).take k)) = s5 := ⟨_, rfl⟩
                          obtain ⟨ss, hss⟩ : ∃ ss, slotsOf H (p : Int) = ss := ⟨_, rfl⟩
                          try simp only [hs5, hss] at HS
                          try simp only [hs5, hss] at HI5
                          try simp only [hs5, hss] at HAP
                          try simp only [hs5, hss] at HSL
                          try simp only [hs5, hss] at HNX5
                          try simp only [hs5, hss] at HLC
                          try simp only [hs5, hss] at HSW
                          try simp only [hs5, hss] at HSG
                          try simp only [hs5, hss] at hcl
                          clear hS hcc hsm hse ep e2 hcn0 hse6 hcb6 hcnv hs5 hss hpc hp6 hp2 hpm hkS ep2
                          generalize uS (H.row.getD p 0) = u0 at *
                          generalize uF (H.row.getD p 0) = u1 at *
                          generalize uC (H.row.getD p 0) = u2 at *
                          generalize uH (H.row.getD p 0) = u3 at *
                          generalize uP (H.row.getD p 0) = u4 at *
                          generalize uM (H.row.getD p 0) = u5 at *
                          go_wp2_with fail
                          clear z0 z1 z2 z3 z4 z5 z6 z7 z8 x0
                          go_loopw [11] (fun q wr => ∃ j : Nat, j ≤ ss.length ∧ q = .int .i64 (j : Int) ∧ Sp H w W wr w.heap.size C P g1 g2 g3 gt k1 k2 k3 (2 * hf H) (.slice a1 H.row.length c1) (.slice a2 H.roots.length c2) (.slice a3 H.mourned.length c3) (.slice (some ⟨lb, lo, none⟩) H.seen.length c4) (.slice sa sn sc) (slotsK H s5 (p + 1) j).row (slotsK H s5 (p + 1) j).top (toL H (slotsK H s5 (p + 1) j)) (scA H).2 (scB H).2) (fun q _ => ss.length - (intOf q).toNat)
                          case atStart => exact ⟨0, Nat.zero_le _, rfl, HS.out⟩
                          case round =>
                            obtain ⟨j, hj, rfl, hS⟩ := hrel
                            have HSJ : Hid _ := hS
                            obtain ⟨⟨z0, z1, z2, z3, z4⟩, ⟨z5, z6, z7, z8⟩, _⟩ := nine_cells (hS.read HW1.out.1 HLE.out)
                            have LH := HLH.out wr hS.was
                            by_cases hjl : j < ss.length
                            · have hjl' : (j : Int) < (ss.length : Int) := by omega
                              obtain ⟨a', c', e', _, _, _, hcc⟩ := hS.was.1
                              injection e' with e1 e2 e3
                              subst e1 e3
                              obtain ⟨rb, ro, rfl, hrb, _⟩ := hcc (by omega)
                              have HXC : Hid (∀ V xr tt tl rs ms, Sp H w W V w.heap.size C P g1 g2 g3 gt k1 k2 k3 (2 * hf H) (.slice (some ⟨rb, ro, none⟩) H.row.length c1) (.slice a2 H.roots.length c2) (.slice a3 H.mourned.length c3) (.slice (some ⟨lb, lo, none⟩) H.seen.length c4) (.slice sa sn sc) xr tt tl rs ms → V.cell? ⟨rb, ro + (p + 1 + j), none⟩ = some (.int .i64 (H.row.getD (p + 1 + j) 0)) ∧ V.cell? ⟨P, 2, none⟩ = some (.slice (some ⟨g1, 0, none⟩) H.row.length k1) ∧ V.cell? ⟨w.heap.size, 2, none⟩ = some (.slice (some ⟨rb, ro, none⟩) H.row.length c1)) := fun V xr tt tl rs ms hV => by
                                obtain ⟨⟨z0, z1, z2, z3, z4⟩, ⟨z5, z6, z7, z8⟩, _⟩ := nine_cells (hV.read HW1.out.1 HLE.out)
                                obtain ⟨⟨m0, m1, m2, m3, m4⟩, ⟨m5, m6, m7, m8⟩, _⟩ := nine_cells hV.nine
                                exact ⟨ints_cellS hV.was.1 (by omega), m2, z2⟩
                              obtain ⟨I6, A6⟩ := HI5.out.slots HRR.out (q := p + 1) (n := ss.length) (xs := ss) (fun j hj => HSL.out _ j hj) (fun j hj => HAP.out j hj) j hj
                              have HL : Hid (∀ V, Sp H w W V w.heap.size C P g1 g2 g3 gt k1 k2 k3 (2 * hf H) (.slice (some ⟨rb, ro, none⟩) H.row.length c1) (.slice a2 H.roots.length c2) (.slice a3 H.mourned.length c3) (.slice (some ⟨lb, lo, none⟩) H.seen.length c4) (.slice sa sn sc) (slotsK H s5 (p + 1) j).row (slotsK H s5 (p + 1) j).top (toL H (slotsK H s5 (p + 1) j)) (scA H).2 (scB H).2 → _) := fun V hV => l11Word_any HH0.out rfl HRR.out I6 hV (ss.getD j 0) (HSW.out j hjl)
                              have hrd : (slotsK H s5 (p + 1) j).row.getD (p + 1 + j) 0 = ss.getD j 0 := (HSL.out _ j hjl).read I6 (fun h => h.elim (HAP.out j hjl) (fun h => by omega))
                              have HNX : Hid (slotsK H s5 (p + 1) (j + 1) = { (lead H (slotsK H s5 (p + 1) j) (ss.getD j 0)).1 with row := (lead H (slotsK H s5 (p + 1) j) (ss.getD j 0)).1.row.set (p + 1 + j) (lead H (slotsK H s5 (p + 1) j) (ss.getD j 0)).2 }) := by show _ = _; rw [slotsK_next]; unfold slotStep; rw [hrd]
                              have hxe := HSG.out j hjl
                              obtain ⟨s6, hs6⟩ : ∃ s6, slotsK H s5 (p + 1) j = s6 := ⟨_, rfl⟩
                              obtain ⟨xw, hxw⟩ : ∃ xw, ss.getD j 0 = xw := ⟨_, rfl⟩
                              rw [hxw] at hxe
                              try simp only [hs6, hxw] at HSJ
                              try simp only [hs6, hxw] at HL
                              try simp only [hs6, hxw] at HNX
                              simp only [← hxe] at HXC
                              obtain ⟨yw, hyw⟩ : ∃ yw, (lead H s6 xw).2 = yw := ⟨_, rfl⟩
                              obtain ⟨s7, hs7⟩ : ∃ s7, (lead H s6 xw).1 = s7 := ⟨_, rfl⟩
                              unfold Led at HL
                              try simp only [hyw, hs7] at HL
                              try simp only [hyw, hs7] at HNX
                              have HSE : Hid (∀ V W2, Below V.heap.size V W2 → Sp H w W V w.heap.size C P g1 g2 g3 gt k1 k2 k3 (2 * hf H) (.slice (some ⟨rb, ro, none⟩) H.row.length c1) (.slice a2 H.roots.length c2) (.slice a3 H.mourned.length c3) (.slice (some ⟨lb, lo, none⟩) H.seen.length c4) (.slice sa sn sc) s6.row s6.top (toL H s6) (scA H).2 (scB H).2 → Sp H w W W2 w.heap.size C P g1 g2 g3 gt k1 k2 k3 (2 * hf H) (.slice (some ⟨rb, ro, none⟩) H.row.length c1) (.slice a2 H.roots.length c2) (.slice a3 H.mourned.length c3) (.slice (some ⟨lb, lo, none⟩) H.seen.length c4) (.slice sa sn sc) s6.row s6.top (toL H s6) (scA H).2 (scB H).2) := fun V W2 hb hV => hV.grow hb
                              clear hS hcc hrd hxe hxw hs6 hyw hs7 e2 hrb I6 A6
                              go_upto_region 28 with (first
                                | (go_at_call 55; refine LH.mono ?_; clear LH z0 z1 z2 z3 z4 z5 z6 z7 z8; rintro e w7 ⟨rfl, b7⟩; have HS7 : Hid _ := HSE.out _ _ b7 HSJ.out; have LC := HLC.out w7; clear b7)
                                | (go_at_call 72; refine LC.mono ?_; clear LC; rintro e w8 ⟨rfl, b8⟩; have HS8 : Hid _ := HSE.out _ _ b8 HS7.out; clear b8))
                              have i1 : ((p : Int) + 1 + (j : Int)).toNat = p + 1 + j := by omega
                              have i2 : (0 : Int) ≤ (p : Int) + 1 + (j : Int) := by omega
                              have i3 : (p : Int) + 1 + (j : Int) < (H.row.length : Int) := by omega
                              generalize hA0 : (Act.mk _ []) = A0
                              have e1 : A0.tmps.getD 1 undef = .pointer (some ⟨w.heap.size, 0, none⟩) := by rw [← hA0]; rfl
                              have e3 : A0.tmps.getD 3 undef = .pointer (some ⟨P, 0, none⟩) := by rw [← hA0]; rfl
                              have e5 : A0.tmps.getD 5 undef = .pointer (some ⟨C, 0, none⟩) := by rw [← hA0]; rfl
                              have e10 : A0.tmps.getD 10 undef = .int .i64 (p : Int) := by rw [← hA0]; rfl
                              have e11 : A0.tmps.getD 11 undef = .int .i64 (j : Int) := by rw [← hA0]; rfl
                              have sz : A0.tmps.size = 174 := by rw [← hA0]; rfl
                              refine wp_region_once (by kernel_rfl) DR8 (by simp) ?_ 17 15 rfl (by decide) dR8 dR8_inj (FR8 H w P C g1 k1 rb ro c1 p j xw yw) (fun V => Sp H w W V w.heap.size C P g1 g2 g3 gt k1 k2 k3 (2 * hf H) (.slice (some ⟨rb, ro, none⟩) H.row.length c1) (.slice a2 H.roots.length c2) (.slice a3 H.mourned.length c3) (.slice (some ⟨lb, lo, none⟩) H.seen.length c4) (.slice sa sn sc) s6.row s6.top (toL H s6) (scA H).2 (scB H).2) (fun V => Sp H w W V w.heap.size C P g1 g2 g3 gt k1 k2 k3 (2 * hf H) (.slice (some ⟨rb, ro, none⟩) H.row.length c1) (.slice a2 H.roots.length c2) (.slice a3 H.mourned.length c3) (.slice (some ⟨lb, lo, none⟩) H.seen.length c4) (.slice sa sn sc) s7.row s7.top (toL H s7) (scA H).2 (scB H).2) (HS8.out.grow (Below.refl _ _).drew) ?_ ?_ ?_ ?_
                              · intro k o ho
                                have hk : k < 18 := (Array.getElem?_eq_some_iff.1 ho).1
                                rcases (show k = 0 ∨ k = 1 ∨ k = 2 ∨ k = 3 ∨ k = 4 ∨ k = 5 ∨ k = 6 ∨ k = 7 ∨ k = 8 ∨ k = 9 ∨ k = 10 ∨ k = 11 ∨ k = 12 ∨ k = 13 ∨ k = 14 ∨ k = 15 ∨ k = 16 ∨ k = 17 by omega) with rfl | rfl | rfl | rfl | rfl | rfl | rfl | rfl | rfl | rfl | rfl | rfl | rfl | rfl | rfl | rfl | rfl | rfl <;> (obtain rfl := Option.some.inj ho; simp [Region.binds])
                              · intro o ho kk hkk
                                obtain rfl := Option.some.inj ho
                                rcases (show kk = 0 ∨ kk = 1 ∨ kk = 2 ∨ kk = 3 ∨ kk = 4 ∨ kk = 5 ∨ kk = 6 ∨ kk = 7 ∨ kk = 8 ∨ kk = 9 ∨ kk = 10 ∨ kk = 11 ∨ kk = 12 ∨ kk = 13 ∨ kk = 14 ∨ kk = 15 ∨ kk = 16 by omega) with rfl | rfl | rfl | rfl | rfl | rfl | rfl | rfl | rfl | rfl | rfl | rfl | rfl | rfl | rfl | rfl | rfl <;> simp [Region.binds]
                              · intro k o u W hk hkc ho hAB hF
                                have ev : ∀ s, DR8 s = true → s < 174 → (ovr DR8 A0 u).tmps[s]?.getD undef = u s := fun s h1 h2 => (getD_at _ _).symm.trans (eval_in h1 (by omega))
                                have o1 : (ovr DR8 A0 u).tmps[1]?.getD undef = _ := (getD_at _ _).symm.trans ((eval_out (D := DR8) (a0 := A0) (u := u) (s := 1) rfl (by omega)).trans e1)
                                have o3 : (ovr DR8 A0 u).tmps[3]?.getD undef = _ := (getD_at _ _).symm.trans ((eval_out (D := DR8) (a0 := A0) (u := u) (s := 3) rfl (by omega)).trans e3)
                                have o5 : (ovr DR8 A0 u).tmps[5]?.getD undef = _ := (getD_at _ _).symm.trans ((eval_out (D := DR8) (a0 := A0) (u := u) (s := 5) rfl (by omega)).trans e5)
                                have o10 : (ovr DR8 A0 u).tmps[10]?.getD undef = _ := (getD_at _ _).symm.trans ((eval_out (D := DR8) (a0 := A0) (u := u) (s := 10) rfl (by omega)).trans e10)
                                have o11 : (ovr DR8 A0 u).tmps[11]?.getD undef = _ := (getD_at _ _).symm.trans ((eval_out (D := DR8) (a0 := A0) (u := u) (s := 11) rfl (by omega)).trans e11)
                                obtain ⟨x0, m2, z2⟩ := hAB.elim (HXC.out W _ _ _ _ _) (HXC.out W _ _ _ _ _)
                                rcases (show k = 0 ∨ k = 1 ∨ k = 2 ∨ k = 3 ∨ k = 4 ∨ k = 5 ∨ k = 6 ∨ k = 7 ∨ k = 8 ∨ k = 9 ∨ k = 10 ∨ k = 11 ∨ k = 12 ∨ k = 13 ∨ k = 14 ∨ k = 15 ∨ k = 16 by omega) with rfl | rfl | rfl | rfl | rfl | rfl | rfl | rfl | rfl | rfl | rfl | rfl | rfl | rfl | rfl | rfl | rfl
                                all_goals obtain rfl := Option.some.inj ho
                                · refine onceV (v := .pointer (some ⟨P, 2, none⟩)) rfl rfl ?_ rfl
                                  simp only [execOp]
                                  go_simp
                                  try go_num
                                  try (rw [IntKind.wrap_i64]; omega)
                                · have x0 := (ev 110 rfl (by decide)).trans (hF 0 (by decide) (by simp [Region.binds]))
                                  refine onceV (v := .slice (some ⟨g1, 0, none⟩) H.row.length k1) rfl rfl ?_ rfl
                                  simp only [execOp]
                                  go_simp
                                  try go_num
                                  try (rw [IntKind.wrap_i64]; omega)
                                · refine onceV (v := .int .i64 (p : Int)) rfl rfl ?_ rfl
                                  simp only [execOp]
                                  go_simp
                                  try go_num
                                  try (rw [IntKind.wrap_i64]; omega)
                                · have x2 := (ev 112 rfl (by decide)).trans (hF 2 (by decide) (by simp [Region.binds]))
                                  refine onceV (v := .int .i64 ((p : Int) + 1)) rfl rfl ?_ rfl
                                  simp only [execOp]
                                  go_simp
                                  try go_num
                                  try (rw [IntKind.wrap_i64]; omega)
                                · refine onceV (v := .int .i64 (j : Int)) rfl rfl ?_ rfl
                                  simp only [execOp]
                                  go_simp
                                  try go_num
                                  try (rw [IntKind.wrap_i64]; omega)
                                · have x3 := (ev 113 rfl (by decide)).trans (hF 3 (by decide) (by simp [Region.binds]))
                                  have x4 := (ev 114 rfl (by decide)).trans (hF 4 (by decide) (by simp [Region.binds]))
                                  refine onceV (v := .int .i64 ((p : Int) + 1 + (j : Int))) rfl rfl ?_ rfl
                                  simp only [execOp]
                                  go_simp
                                  try go_num
                                  try (rw [IntKind.wrap_i64]; omega)
                                · refine onceV (v := .pointer (some ⟨C, 0, none⟩)) rfl rfl ?_ rfl
                                  simp only [execOp]
                                  go_simp
                                  try go_num
                                  try (rw [IntKind.wrap_i64]; omega)
                                · refine onceV (v := .pointer (some ⟨w.heap.size, 2, none⟩)) rfl rfl ?_ rfl
                                  simp only [execOp]
                                  go_simp
                                  try go_num
                                  try (rw [IntKind.wrap_i64]; omega)
                                · have x7 := (ev 117 rfl (by decide)).trans (hF 7 (by decide) (by simp [Region.binds]))
                                  refine onceV (v := .slice (some ⟨rb, ro, none⟩) H.row.length c1) rfl rfl ?_ rfl
                                  simp only [execOp]
                                  go_simp
                                  try go_num
                                  try (rw [IntKind.wrap_i64]; omega)
                                · refine onceV (v := .int .i64 (p : Int)) rfl rfl ?_ rfl
                                  simp only [execOp]
                                  go_simp
                                  try go_num
                                  try (rw [IntKind.wrap_i64]; omega)
                                · have x9 := (ev 119 rfl (by decide)).trans (hF 9 (by decide) (by simp [Region.binds]))
                                  refine onceV (v := .int .i64 ((p : Int) + 1)) rfl rfl ?_ rfl
                                  simp only [execOp]
                                  go_simp
                                  try go_num
                                  try (rw [IntKind.wrap_i64]; omega)
                                · refine onceV (v := .int .i64 (j : Int)) rfl rfl ?_ rfl
                                  simp only [execOp]
                                  go_simp
                                  try go_num
                                  try (rw [IntKind.wrap_i64]; omega)
                                · have x10 := (ev 120 rfl (by decide)).trans (hF 10 (by decide) (by simp [Region.binds]))
                                  have x11 := (ev 121 rfl (by decide)).trans (hF 11 (by decide) (by simp [Region.binds]))
                                  refine onceV (v := .int .i64 ((p : Int) + 1 + (j : Int))) rfl rfl ?_ rfl
                                  simp only [execOp]
                                  go_simp
                                  try go_num
                                  try (rw [IntKind.wrap_i64]; omega)
                                · have x8 := (ev 118 rfl (by decide)).trans (hF 8 (by decide) (by simp [Region.binds]))
                                  have x12 := (ev 122 rfl (by decide)).trans (hF 12 (by decide) (by simp [Region.binds]))
                                  refine onceV (v := .pointer (some ⟨rb, ro + (p + 1 + j), none⟩)) rfl rfl ?_ rfl
                                  simp only [execOp]
                                  go_simp
                                  try go_num
                                  try (rw [IntKind.wrap_i64]; omega)
                                · have x13 := (ev 123 rfl (by decide)).trans (hF 13 (by decide) (by simp [Region.binds]))
                                  refine onceV (v := .int .i64 xw) rfl rfl ?_ rfl
                                  simp only [execOp]
                                  go_simp
                                  try go_num
                                  try (rw [IntKind.wrap_i64]; omega)
                                · exact absurd rfl hkc
                                · have x1 := (ev 111 rfl (by decide)).trans (hF 1 (by decide) (by simp [Region.binds]))
                                  have x5 := (ev 115 rfl (by decide)).trans (hF 5 (by decide) (by simp [Region.binds]))
                                  refine onceV (v := .pointer (some ⟨g1, p + 1 + j, none⟩)) rfl rfl ?_ rfl
                                  simp only [execOp]
                                  go_simp
                                  try go_num
                                  try (rw [IntKind.wrap_i64]; omega)
                              · intro o u W ho hAW hF
                                obtain rfl := Option.some.inj ho
                                have ev : ∀ s, DR8 s = true → s < 174 → (ovr DR8 A0 u).tmps[s]?.getD undef = u s := fun s h1 h2 => (getD_at _ _).symm.trans (eval_in h1 (by omega))
                                have o1 : (ovr DR8 A0 u).tmps[1]?.getD undef = _ := (getD_at _ _).symm.trans ((eval_out (D := DR8) (a0 := A0) (u := u) (s := 1) rfl (by omega)).trans e1)
                                have o3 : (ovr DR8 A0 u).tmps[3]?.getD undef = _ := (getD_at _ _).symm.trans ((eval_out (D := DR8) (a0 := A0) (u := u) (s := 3) rfl (by omega)).trans e3)
                                have o5 : (ovr DR8 A0 u).tmps[5]?.getD undef = _ := (getD_at _ _).symm.trans ((eval_out (D := DR8) (a0 := A0) (u := u) (s := 5) rfl (by omega)).trans e5)
                                have o10 : (ovr DR8 A0 u).tmps[10]?.getD undef = _ := (getD_at _ _).symm.trans ((eval_out (D := DR8) (a0 := A0) (u := u) (s := 10) rfl (by omega)).trans e10)
                                have o11 : (ovr DR8 A0 u).tmps[11]?.getD undef = _ := (getD_at _ _).symm.trans ((eval_out (D := DR8) (a0 := A0) (u := u) (s := 11) rfl (by omega)).trans e11)
                                have x6 := (ev 116 rfl (by decide)).trans (hF 6 (by decide) (by simp [Region.binds]))
                                have x14 := (ev 124 rfl (by decide)).trans (hF 14 (by decide) (by simp [Region.binds]))
                                refine onceC (f := 71) (args := #[.pointer (some ⟨C, 0, none⟩), .int .i64 xw]) rfl rfl ?_ ((HL.out W hAW).mono ?_)
                                · simp only [execOp]
                                  go_simp
                                · rintro e w' ⟨rfl, hS'⟩
                                  exact ⟨_, rfl, hS', rfl⟩
                              · intro o u W ho hBW hF
                                obtain rfl := Option.some.inj ho
                                have ev : ∀ s, DR8 s = true → s < 174 → (ovr DR8 A0 u).tmps[s]?.getD undef = u s := fun s h1 h2 => (getD_at _ _).symm.trans (eval_in h1 (by omega))
                                have o1 : (ovr DR8 A0 u).tmps[1]?.getD undef = _ := (getD_at _ _).symm.trans ((eval_out (D := DR8) (a0 := A0) (u := u) (s := 1) rfl (by omega)).trans e1)
                                have o3 : (ovr DR8 A0 u).tmps[3]?.getD undef = _ := (getD_at _ _).symm.trans ((eval_out (D := DR8) (a0 := A0) (u := u) (s := 3) rfl (by omega)).trans e3)
                                have o5 : (ovr DR8 A0 u).tmps[5]?.getD undef = _ := (getD_at _ _).symm.trans ((eval_out (D := DR8) (a0 := A0) (u := u) (s := 5) rfl (by omega)).trans e5)
                                have o10 : (ovr DR8 A0 u).tmps[10]?.getD undef = _ := (getD_at _ _).symm.trans ((eval_out (D := DR8) (a0 := A0) (u := u) (s := 10) rfl (by omega)).trans e10)
                                have o11 : (ovr DR8 A0 u).tmps[11]?.getD undef = _ := (getD_at _ _).symm.trans ((eval_out (D := DR8) (a0 := A0) (u := u) (s := 11) rfl (by omega)).trans e11)
                                have x15 := (ev 125 rfl (by decide)).trans (hF 15 (by decide))
                                have x16 := (ev 126 rfl (by decide)).trans (hF 16 (by decide))
                                obtain ⟨c0, cf⟩ := own_cellAt hBW.row (q := p + 1 + j) (by rw [hBW.cut.1]; omega)
                                have HS9 : Hid _ := hBW.setRow HH0.out rfl (p + 1 + j) yw
                                refine plainS (W' := W.setCell ⟨g1, p + 1 + j, none⟩ (.int .i64 yw)) rfl ?_ ?_
                                · simp only [execOp]
                                  go_simp
                                · subst hA0
                                  clear hBW ev c0 cf x15 x16
                                  simp [ovr, DR8, List.range, List.range.loop]
                                  go_wp2_with fail
                                  refine ⟨⟨j + 1, by omega, by go_num, ?_⟩, by simp [intOf]; omega⟩
                                  rw [HNX.out]
                                  exact HS9.out
                            · have hje : j = ss.length := by omega
                              have hjl' : ¬ (j : Int) < (ss.length : Int) := by omega
                              have HSE : Hid (∀ V W2, Below V.heap.size V W2 → Sp H w W V w.heap.size C P g1 g2 g3 gt k1 k2 k3 (2 * hf H) (.slice a1 H.row.length c1) (.slice a2 H.roots.length c2) (.slice a3 H.mourned.length c3) (.slice (some ⟨lb, lo, none⟩) H.seen.length c4) (.slice sa sn sc) (slotsK H s5 (p + 1) j).row (slotsK H s5 (p + 1) j).top (toL H (slotsK H s5 (p + 1) j)) (scA H).2 (scB H).2 → Sp H w W W2 w.heap.size C P g1 g2 g3 gt k1 k2 k3 (2 * hf H) (.slice a1 H.row.length c1) (.slice a2 H.roots.length c2) (.slice a3 H.mourned.length c3) (.slice (some ⟨lb, lo, none⟩) H.seen.length c4) (.slice sa sn sc) (slotsK H s5 (p + 1) j).row (slotsK H s5 (p + 1) j).top (toL H (slotsK H s5 (p + 1) j)) (scA H).2 (scB H).2) := fun V W2 hb hV => hV.grow hb
                              clear hS
                              go_wp2_with (first
                                | (go_at_call 55; refine LH.mono ?_; clear LH z0 z1 z2 z3 z4 z5 z6 z7 z8; rintro e w7 ⟨rfl, b7⟩; have HS7 : Hid _ := HSE.out _ _ b7 HSJ.out; have LC := HLC.out w7; clear b7)
                                | (go_at_call 72; refine LC.mono ?_; clear LC; rintro e w8 ⟨rfl, b8⟩; have HS8 : Hid _ := HSE.out _ _ b8 HS7.out; clear b8))
                              refine ⟨⟨k + 1, HK1.out, by go_num, ?_⟩, by have := HK1.out; simp [intOf]; omega⟩
                              rw [HNX5.out, ← hje]
                              exact HS8.out
                        · have hke : k = H.seen.length := by omega
                          have hlt' : ¬ (k : Int) < (H.seen.length : Int) := by omega
                          have hsc : seenS H (scB H).1 ((seenL H).take k) = scC H := by unfold scC; rw [List.take_of_length_le (by rw [← HSN.out]; omega)]
                          rw [hsc] at HS
                          clear hS hke hsc
                          have HS6 : Hid (Sp H w W wr w.heap.size C P g1 g2 g3 gt k1 k2 k3 (2 * hf H) (.slice a1 H.row.length c1) (.slice a2 H.roots.length c2) (.slice a3 H.mourned.length c3) (.slice a4 H.seen.length c4) (.slice sa sn sc) (scC H).row (scC H).top (toL H (scC H)) (scA H).2 (scB H).2) := HS.out
                          clear HS
                          go_wp2_with fail
                          clear hlt hlt' hk z0 z1 z2 z3 z4 z5 z6 z7 z8
                          go_loopw [12] (fun q wr => ∃ i : Nat, (∀ j, j < i → j < (scanS H (scC H) j).went.length) ∧ i ≤ (scanS H (scC H) i).went.length ∧ q = .int .i64 ((sumS H ((scanS H (scC H) i).went.take i) : Nat) : Int) ∧ Sp H w W wr w.heap.size C P g1 g2 g3 gt k1 k2 k3 (2 * hf H) (.slice a1 H.row.length c1) (.slice a2 H.roots.length c2) (.slice a3 H.mourned.length c3) (.slice a4 H.seen.length c4) (.slice sa sn sc) (scanS H (scC H) i).row (scanS H (scC H) i).top (toL H (scanS H (scC H) i)) (scA H).2 (scB H).2) (fun q _ => 400 - (intOf q).toNat)
                          case atStart => exact ⟨0, fun j hj => by omega, Nat.zero_le _, rfl, HS6.out⟩
                          case round =>
                            obtain ⟨i, hall, hile, rfl, hS⟩ := hrel
                            have HS : Hid _ := hS
                            have HALL : Hid _ := hall
                            obtain ⟨I7, _⟩ := (inv_C HRR.out).scan HRR.out (ds_up HRR.out) i (by
                              cases i with
                              | zero => exact .inl rfl
                              | succ i => exact .inr (hall i (by omega))) hall
                            have HI7 : Hid _ := I7
                            have hsum := room_for HRR.out.some' I7.keys I7.room
                            have htop := I7.top
                            have hts := sum_all H (scanS H (scC H) i).went i
                            have ht2 : (scanS H (scC H) i).top ≤ 200 := by have := HN.out.1.top1; have := HN.out.1.half1; omega
                            obtain ⟨⟨z0, z1, z2, z3, z4⟩, ⟨z5, z6, z7, z8⟩, _⟩ := nine_cells (hS.read HW1.out.1 HLE.out)
                            obtain ⟨⟨m0, m1, m2, m3, m4⟩, ⟨m5, m6, m7, m8⟩, _⟩ := nine_cells hS.nine
                            by_cases hlt : i < (scanS H (scC H) i).went.length
                            · have hsn := sum_take_succ H (scanS H (scC H) i).went hlt
                              have hsa := sum_all H (scanS H (scC H) i).went (i + 1)
                              have hRO : RO H ps (key (scanS H (scC H) i) i) := I7.room _ (key_mem hlt)
                              have hz2 := hRO.two
                              have hcl := slots_end hRO.ch hRO.n6
                              have hsz : szN H (key (scanS H (scC H) i) i) = (chunk H.row (key (scanS H (scC H) i) i)).toNat := rfl
                              have hcb := chunk_bounds H.row (key (scanS H (scC H) i) i)
                              obtain ⟨hcw, hhw⟩ := chunk_new I7 HRR.out hlt
                              have hpt := pos_top I7 hlt
                              have hposd : pos H (scanS H (scC H) i) i = nb H + sumS H ((scanS H (scC H) i).went.take i) := rfl
                              have hrl := I7.len
                              have hcs := slots_len (H := H) hRO.ch
                              unfold cnS at hcs
                              rw [if_neg hRO.n7, if_neg hRO.n6] at hcs
                              obtain ⟨us0, us1⟩ := uS_bounds (H.row.getD (key (scanS H (scC H) i) i) 0)
                              have hsz3 : sz (uS (H.row.getD (key (scanS H (scC H) i) i) 0)) = ((szN H (key (scanS H (scC H) i) i) : Nat) : Int) := by
                                have hc := hRO.ch
                                unfold szN
                                unfold chunk at hc ⊢
                                by_cases hk : (ok (H.row.getD (key (scanS H (scC H) i) i) 0) && !uM (H.row.getD (key (scanS H (scC H) i) i) 0)) = true
                                · rw [if_pos hk, if_neg hRO.n6] at hc ⊢
                                  by_cases h3 : ((key (scanS H (scC H) i) i : Nat) : Int) + sz (uS (H.row.getD (key (scanS H (scC H) i) i) 0)) ≤ H.row.length ∧ (uF (H.row.getD (key (scanS H (scC H) i) i) 0) = 7 → isA (H.row.getD (key (scanS H (scC H) i) i + 1) 0) = true)
                                  · rw [if_pos h3] at hc ⊢
                                    have := sz_bounds us0 us1
                                    omega
                                  · rw [if_neg h3] at hc; exact absurd rfl hc
                                · rw [if_neg hk] at hc; exact absurd rfl hc
                              have HNX7 : Hid _ := scan_next hlt
                              have HSL : Hid (∀ s, Aft (scanS H (scC H) i) s → ∀ j, j < (slotsOf H (key (scanS H (scC H) i) i : Int)).length → Slot H ps s (pos H (scanS H (scC H) i) i + 1 + j) ((slotsOf H (key (scanS H (scC H) i) i : Int)).getD j 0)) := fun s hA j hj => (new_slot I7 HRR.out hlt hj).ext hA
                              have HND : Hid (∀ j, j < (slotsOf H (key (scanS H (scC H) i) i : Int)).length → ¬ (DS H (seenL H) (pos H (scanS H (scC H) i) i + 1 + j) ∨ DN H (scanS H (scC H) i) i (pos H (scanS H (scC H) i) i + 1 + j))) := fun j hj => by
                                rintro (h | ⟨j', h1, h2, h3, h4⟩)
                                · have := ds_up HRR.out _ h
                                  have := HN.out.1.top1
                                  have := HN.out.2.2.2
                                  omega
                                · have O' : RO H ps (key (scanS H (scC H) i) j') := I7.room _ (key_mem h2)
                                  have se' := slots_end O'.ch O'.n6
                                  have hz' : pos H (scanS H (scC H) i) i + 1 + j - pos H (scanS H (scC H) i) j' < szN H (key (scanS H (scC H) i) j') := by unfold szN; omega
                                  have hz : 1 + j < szN H (key (scanS H (scC H) i) i) := by unfold szN; omega
                                  have := pos_apart I7 hlt h2 hz hz' (by omega)
                                  omega
                              have HSW : Hid (∀ j, j < (slotsOf H (key (scanS H (scC H) i) i : Int)).length → wordIn H ps ((slotsOf H (key (scanS H (scC H) i) i : Int)).getD j 0) = true) := fun j hj => slots_word HRR.out hRO.mem hj
                              have hp9 : pos H (scanS H (scC H) i) i + 1 + (slotsOf H (key (scanS H (scC H) i) i : Int)).length ≤ H.row.length ∧ (slotsOf H (key (scanS H (scC H) i) i : Int)).length ≤ 20 ∧ pos H (scanS H (scC H) i) i ≤ 600 := by have := HN.out.1.len; have := HN.out.1.top1; have := HN.out.1.half1; have := HN.out.2.2.2; omega
                              have hus : uS (H.row.getD (key (scanS H (scC H) i) i) 0) = ((slotsOf H (key (scanS H (scC H) i) i : Int)).length : Int) := by omega
                              have hbm := HN.out.2.1
                              obtain ⟨p, hp⟩ : ∃ p, pos H (scanS H (scC H) i) i = p := ⟨_, rfl⟩
                              obtain ⟨at0, hat0⟩ : ∃ q, sumS H ((scanS H (scC H) i).went.take i) = q := ⟨_, rfl⟩
                              have hw1 : IntKind.i64.wrap ((1 - H.side) * H.half) = (1 - H.side) * H.half := by rw [hbm, IntKind.wrap_i64]; have := HN.out.1.half1; have := HN.out.2.2.2; omega
                              have hw2 : IntKind.i64.wrap ((1 - H.side) * H.half + (at0 : Int)) = (p : Int) := by rw [hbm, IntKind.wrap_i64]; have := HN.out.1.half1; have := HN.out.2.2.2; omega
                              have LH := l4Head_any (own_ints (show rows.Own wr w.heap.size (.slice (some ⟨g1, 0, none⟩) H.row.length k1) (scanS H (scC H) i).row by unfold rows.Own; rw [hrl]; exact hS.row)) p (by rw [hrl]; omega)
                              rw [show (scanS H (scC H) i).row.getD p 0 = H.row.getD (key (scanS H (scC H) i) i) 0 by rw [← hp]; exact hhw] at LH
                              have hlt7 : (at0 : Int) < ((scanS H (scC H) i).top : Int) := by omega
                              have hltw : Hid _ := hlt
                              have HF7 : Hid (key (scanS H (scC H) i) i < H.row.length ∧ sumS H ((scanS H (scC H) i).went.take i) = at0 ∧ pos H (scanS H (scC H) i) i = p ∧ sumS H ((scanS H (scC H) i).went.take (i + 1)) = at0 + szN H (key (scanS H (scC H) i) i) ∧ at0 + szN H (key (scanS H (scC H) i) i) ≤ (scanS H (scC H) i).top ∧ 2 ≤ szN H (key (scanS H (scC H) i) i)) := ⟨by have := HN.out.1.room; have := HN.out.1.len; have := hRO.hi; omega, hat0, hp, by rw [hsn, hat0], by have h5 : sumS H ((scanS H (scC H) i).went.take (i + 1)) = at0 + szN H (key (scanS H (scC H) i) i) := (by rw [hsn, hat0]); omega, hz2⟩
                              have HA7 : Hid (∀ s, Aft (scanS H (scC H) i) s → s.went.take (i + 1) = (scanS H (scC H) i).went.take (i + 1) ∧ i + 1 ≤ s.went.length) := fun s hA => by
                                obtain ⟨l, hl⟩ := hA
                                rw [hl]
                                exact ⟨List.take_append_of_le_length (by omega), by rw [List.length_append]; omega⟩
                              rw [hp] at hp9
                              simp only [hp] at HSL HND HNX7
                              rw [hat0]
                              unfold hw at LH
                              obtain ⟨ss, hss⟩ : ∃ ss, slotsOf H (key (scanS H (scC H) i) i : Int) = ss := ⟨_, rfl⟩
                              try simp only [hss] at HSL
                              try simp only [hss] at HND
                              try simp only [hss] at HNX7
                              try simp only [hss] at HSW
                              try simp only [hss] at hp9
                              try simp only [hss] at hus
                              rw [hus] at LH hsz3
                              have L2 := fun V => l2Size_any (ss.length : Int) V (by omega) (by omega)
                              rw [hsz3] at L2
                              obtain ⟨n, hn⟩ : ∃ n, szN H (key (scanS H (scC H) i) i) = n := ⟨_, rfl⟩
                              rw [hn] at L2 HF7
                              obtain ⟨s7, hs7⟩ : ∃ s7, (scanS H (scC H) i) = s7 := ⟨_, rfl⟩
                              try simp only [hs7] at HS
                              try simp only [hs7] at HI7
                              try simp only [hs7] at HNX7
                              try simp only [hs7] at HSL
                              try simp only [hs7] at HND
                              try simp only [hs7] at HF7
                              try simp only [hs7] at HA7
                              try simp only [hs7] at hlt7
                              try simp only [hs7] at m2
                              try simp only [hs7] at m3
                              try simp only [hs7] at m4
                              try simp only [hs7] at LH
                              try simp only [hs7] at ht2
                              try simp only [hs7] at hltw
                              have HS7E : Hid _ := hs7
                              clear hs7
                              have hn2 : n ≤ 200 ∧ at0 + n ≤ 200 := by have := HF7.out; omega
                              clear hS hsum htop hts hsn hsa hRO hz2 hcl hsz hcb hcw hhw hpt hposd hrl hcs us0 us1 hsz3 hus hbm hp hat0 hss hn hall hile I7
                              generalize uF (H.row.getD (key s7 i) 0) = u1 at *
                              generalize uC (H.row.getD (key s7 i) 0) = u2 at *
                              generalize uH (H.row.getD (key s7 i) 0) = u3 at *
                              generalize uP (H.row.getD (key s7 i) 0) = u4 at *
                              generalize uM (H.row.getD (key s7 i) 0) = u5 at *
                              go_upto_region 33 with (go_at_call 55; refine LH.mono ?_; clear LH z0 z1 z2 z3 z4 z5 z6 z7 z8 m0 m1 m2 m3 m4 m5 m6 m7 m8; rintro e w7 ⟨rfl, b7⟩; have HS7 : Hid _ := HS.out.grow b7; clear b7)
                              have BX : Below w7.heap.size w7 (w7.alloc (hb (ss.length : Int) u1 u2 u3 u4 u5)) := (Below.refl _ _).alloc (Nat.le_refl _) _
                              have HS8 : Hid _ := HS7.out.grow BX
                              have HXB : Hid _ := heap_alloc_new w7 (hb (ss.length : Int) u1 u2 u3 u4 u5)
                              have HXN : Hid (w7.heap.size ∉ [P, g1, g2, g3, gt]) := by have := HS7.out.lt; show _ ∉ _; simp; omega
                              have HN8 : Hid _ := HS8.out.read HW1.out.1 HLE.out
                              clear BX HS7
                              obtain ⟨X, hX⟩ : ∃ X, w7.heap.size = X := ⟨_, rfl⟩
                              rw [hX] at HXB HXN ⊢
                              generalize w7.alloc (hb (ss.length : Int) u1 u2 u3 u4 u5) = V8 at *
                              clear hX
                              have HR8 : Hid _ := HS8.out.rebase
                              have HHX : Hid (∀ V xr tt tl rs ms, Sp H w V8 V w.heap.size C P g1 g2 g3 gt k1 k2 k3 (2 * hf H) (.slice a1 H.row.length c1) (.slice a2 H.roots.length c2) (.slice a3 H.mourned.length c3) (.slice a4 H.seen.length c4) (.slice sa sn sc) xr tt tl rs ms → V.cell? ⟨X, 0, none⟩ = some (.int .i64 (ss.length : Int)) ∧ V.cell? ⟨P, 2, none⟩ = some (.slice (some ⟨g1, 0, none⟩) H.row.length k1)) := fun V xr tt tl rs ms hV => by
                                obtain ⟨⟨m0, m1, m2, m3, m4⟩, ⟨m5, m6, m7, m8⟩, _⟩ := nine_cells hV.nine
                                have hx := (hV.ch.block X (lt_of_block HXB.out) HXN.out).trans HXB.out
                                exact ⟨by simp [World.cell?, hx, hb], m2⟩
                              go_wp2_with fail
                              go_loopw [15] (fun q wr => ∃ j : Nat, j ≤ ss.length ∧ q = .int .i64 (j : Int) ∧ Sp H w V8 wr w.heap.size C P g1 g2 g3 gt k1 k2 k3 (2 * hf H) (.slice a1 H.row.length c1) (.slice a2 H.roots.length c2) (.slice a3 H.mourned.length c3) (.slice a4 H.seen.length c4) (.slice sa sn sc) (slotsK H s7 (p + 1) j).row (slotsK H s7 (p + 1) j).top (toL H (slotsK H s7 (p + 1) j)) (scA H).2 (scB H).2) (fun q _ => ss.length - (intOf q).toNat)
                              case atStart => exact ⟨0, Nat.zero_le _, rfl, HR8.out⟩
                              case round =>
                                obtain ⟨j, hj, rfl, hS⟩ := hrel
                                have HSJ : Hid _ := hS
                                obtain ⟨x0, m2⟩ := HHX.out wr _ _ _ _ _ hS
                                obtain ⟨I8, A8⟩ := HI7.out.slots HRR.out (q := p + 1) (n := ss.length) (xs := ss) (fun j hj => HSL.out _ (Aft.refl _) j hj) (fun j hj => HND.out j hj) j hj
                                by_cases hjl : j < ss.length
                                · have hjl' : (j : Int) < (ss.length : Int) := by omega
                                  have hsl8 := HSL.out _ A8 j hjl
                                  have hnd8 : ¬ ((DS H (seenL H) (p + 1 + j) ∨ DN H s7 i (p + 1 + j)) ∨ (p + 1 ≤ p + 1 + j ∧ p + 1 + j < p + 1 + j)) := fun h => h.elim (HND.out j hjl) (fun h => by omega)
                                  have hrd : (slotsK H s7 (p + 1) j).row.getD (p + 1 + j) 0 = ss.getD j 0 := hsl8.read I8 hnd8
                                  obtain ⟨I9, A9, _⟩ := I8.lead HRR.out (HSW.out j hjl)
                                  have hrd9 : (lead H (slotsK H s7 (p + 1) j) (ss.getD j 0)).1.row.getD (p + 1 + j) 0 = ss.getD j 0 := (hsl8.ext A9).read I9 hnd8
                                  have HL : Hid (∀ V, Sp H w V8 V w.heap.size C P g1 g2 g3 gt k1 k2 k3 (2 * hf H) (.slice a1 H.row.length c1) (.slice a2 H.roots.length c2) (.slice a3 H.mourned.length c3) (.slice a4 H.seen.length c4) (.slice sa sn sc) (slotsK H s7 (p + 1) j).row (slotsK H s7 (p + 1) j).top (toL H (slotsK H s7 (p + 1) j)) (scA H).2 (scB H).2 → _) := fun V hV => l11Word_any HH0.out rfl HRR.out I8 hV (ss.getD j 0) (HSW.out j hjl)
                                  have HNX : Hid (slotsK H s7 (p + 1) (j + 1) = { (lead H (slotsK H s7 (p + 1) j) (ss.getD j 0)).1 with row := (lead H (slotsK H s7 (p + 1) j) (ss.getD j 0)).1.row.set (p + 1 + j) (lead H (slotsK H s7 (p + 1) j) (ss.getD j 0)).2 }) := by show _ = _; rw [slotsK_next]; unfold slotStep; rw [hrd]
                                  obtain ⟨s8, hs8⟩ : ∃ s8, slotsK H s7 (p + 1) j = s8 := ⟨_, rfl⟩
                                  obtain ⟨xw, hxw⟩ : ∃ xw, ss.getD j 0 = xw := ⟨_, rfl⟩
                                  rw [hs8, hxw] at hrd hrd9
                                  try simp only [hs8, hxw] at HSJ
                                  try simp only [hs8, hxw] at HL
                                  try simp only [hs8, hxw] at HNX
                                  obtain ⟨yw, hyw⟩ : ∃ yw, (lead H s8 xw).2 = yw := ⟨_, rfl⟩
                                  obtain ⟨s9, hs9⟩ : ∃ s9, (lead H s8 xw).1 = s9 := ⟨_, rfl⟩
                                  rw [hs9] at hrd9
                                  unfold Led at HL
                                  try simp only [hyw, hs9] at HL
                                  try simp only [hyw, hs9] at HNX
                                  have HXA : Hid (∀ V, Sp H w V8 V w.heap.size C P g1 g2 g3 gt k1 k2 k3 (2 * hf H) (.slice a1 H.row.length c1) (.slice a2 H.roots.length c2) (.slice a3 H.mourned.length c3) (.slice a4 H.seen.length c4) (.slice sa sn sc) s8.row s8.top (toL H s8) (scA H).2 (scB H).2 → V.cell? ⟨g1, p + 1 + j, none⟩ = some (.int .i64 xw) ∧ V.cell? ⟨P, 2, none⟩ = some (.slice (some ⟨g1, 0, none⟩) H.row.length k1)) := fun V hV => ⟨by rw [(own_cellAt hV.row (q := p + 1 + j) (by rw [hV.cut.1]; omega)).1, hrd], (HHX.out V _ _ _ _ _ hV).2⟩
                                  have HXB2 : Hid (∀ V, Sp H w V8 V w.heap.size C P g1 g2 g3 gt k1 k2 k3 (2 * hf H) (.slice a1 H.row.length c1) (.slice a2 H.roots.length c2) (.slice a3 H.mourned.length c3) (.slice a4 H.seen.length c4) (.slice sa sn sc) s9.row s9.top (toL H s9) (scA H).2 (scB H).2 → V.cell? ⟨g1, p + 1 + j, none⟩ = some (.int .i64 xw) ∧ V.cell? ⟨P, 2, none⟩ = some (.slice (some ⟨g1, 0, none⟩) H.row.length k1)) := fun V hV => ⟨by rw [(own_cellAt hV.row (q := p + 1 + j) (by rw [hV.cut.1]; omega)).1, hrd9], (HHX.out V _ _ _ _ _ hV).2⟩
                                  clear hS hrd hrd9 hsl8 hnd8 hxw hs8 hyw hs9 I8 A8 I9 A9
                                  go_upto_region 36 with fail
                                  clear x0 m2
                                  have i1 : ((p : Int) + 1 + (j : Int)).toNat = p + 1 + j := by omega
                                  have i2 : (0 : Int) ≤ (p : Int) + 1 + (j : Int) := by omega
                                  have i3 : (p : Int) + 1 + (j : Int) < (H.row.length : Int) := by omega
                                  generalize hA0 : (Act.mk _ []) = A0
                                  have e3 : A0.tmps.getD 3 undef = .pointer (some ⟨P, 0, none⟩) := by rw [← hA0]; rfl
                                  have e5 : A0.tmps.getD 5 undef = .pointer (some ⟨C, 0, none⟩) := by rw [← hA0]; rfl
                                  have e13 : A0.tmps.getD 13 undef = .int .i64 (p : Int) := by rw [← hA0]; rfl
                                  have e15 : A0.tmps.getD 15 undef = .int .i64 (j : Int) := by rw [← hA0]; rfl
                                  have sz : A0.tmps.size = 174 := by rw [← hA0]; rfl
                                  refine wp_region_once (by kernel_rfl) DR9 (by simp) ?_ 17 15 rfl (by decide) dR9 dR9_inj (FR9 H w P C g1 k1 p j xw yw) (fun V => Sp H w V8 V w.heap.size C P g1 g2 g3 gt k1 k2 k3 (2 * hf H) (.slice a1 H.row.length c1) (.slice a2 H.roots.length c2) (.slice a3 H.mourned.length c3) (.slice a4 H.seen.length c4) (.slice sa sn sc) s8.row s8.top (toL H s8) (scA H).2 (scB H).2) (fun V => Sp H w V8 V w.heap.size C P g1 g2 g3 gt k1 k2 k3 (2 * hf H) (.slice a1 H.row.length c1) (.slice a2 H.roots.length c2) (.slice a3 H.mourned.length c3) (.slice a4 H.seen.length c4) (.slice sa sn sc) s9.row s9.top (toL H s9) (scA H).2 (scB H).2) (HSJ.out.grow (Below.refl _ _).drew) ?_ ?_ ?_ ?_
                                  · intro k o ho
                                    have hk : k < 18 := (Array.getElem?_eq_some_iff.1 ho).1
                                    rcases (show k = 0 ∨ k = 1 ∨ k = 2 ∨ k = 3 ∨ k = 4 ∨ k = 5 ∨ k = 6 ∨ k = 7 ∨ k = 8 ∨ k = 9 ∨ k = 10 ∨ k = 11 ∨ k = 12 ∨ k = 13 ∨ k = 14 ∨ k = 15 ∨ k = 16 ∨ k = 17 by omega) with rfl | rfl | rfl | rfl | rfl | rfl | rfl | rfl | rfl | rfl | rfl | rfl | rfl | rfl | rfl | rfl | rfl | rfl <;> (obtain rfl := Option.some.inj ho; simp [Region.binds])
                                  · intro o ho kk hkk
                                    obtain rfl := Option.some.inj ho
                                    rcases (show kk = 0 ∨ kk = 1 ∨ kk = 2 ∨ kk = 3 ∨ kk = 4 ∨ kk = 5 ∨ kk = 6 ∨ kk = 7 ∨ kk = 8 ∨ kk = 9 ∨ kk = 10 ∨ kk = 11 ∨ kk = 12 ∨ kk = 13 ∨ kk = 14 ∨ kk = 15 ∨ kk = 16 by omega) with rfl | rfl | rfl | rfl | rfl | rfl | rfl | rfl | rfl | rfl | rfl | rfl | rfl | rfl | rfl | rfl | rfl <;> simp [Region.binds]
                                  · intro k o u W hk hkc ho hAB hF
                                    have ev : ∀ s, DR9 s = true → s < 174 → (ovr DR9 A0 u).tmps[s]?.getD undef = u s := fun s h1 h2 => (getD_at _ _).symm.trans (eval_in h1 (by omega))
                                    have o3 : (ovr DR9 A0 u).tmps[3]?.getD undef = _ := (getD_at _ _).symm.trans ((eval_out (D := DR9) (a0 := A0) (u := u) (s := 3) rfl (by omega)).trans e3)
                                    have o5 : (ovr DR9 A0 u).tmps[5]?.getD undef = _ := (getD_at _ _).symm.trans ((eval_out (D := DR9) (a0 := A0) (u := u) (s := 5) rfl (by omega)).trans e5)
                                    have o13 : (ovr DR9 A0 u).tmps[13]?.getD undef = _ := (getD_at _ _).symm.trans ((eval_out (D := DR9) (a0 := A0) (u := u) (s := 13) rfl (by omega)).trans e13)
                                    have o15 : (ovr DR9 A0 u).tmps[15]?.getD undef = _ := (getD_at _ _).symm.trans ((eval_out (D := DR9) (a0 := A0) (u := u) (s := 15) rfl (by omega)).trans e15)
                                    obtain ⟨x0, m2⟩ := hAB.elim (HXA.out W) (HXB2.out W)
                                    rcases (show k = 0 ∨ k = 1 ∨ k = 2 ∨ k = 3 ∨ k = 4 ∨ k = 5 ∨ k = 6 ∨ k = 7 ∨ k = 8 ∨ k = 9 ∨ k = 10 ∨ k = 11 ∨ k = 12 ∨ k = 13 ∨ k = 14 ∨ k = 15 ∨ k = 16 by omega) with rfl | rfl | rfl | rfl | rfl | rfl | rfl | rfl | rfl | rfl | rfl | rfl | rfl | rfl | rfl | rfl | rfl
                                    all_goals obtain rfl := Option.some.inj ho
                                    · refine onceV (v := .pointer (some ⟨P, 2, none⟩)) rfl rfl ?_ rfl
                                      simp only [execOp]
                                      go_simp
                                      try go_num
                                      try (rw [IntKind.wrap_i64]; omega)
                                    · have x0 := (ev 148 rfl (by decide)).trans (hF 0 (by decide) (by simp [Region.binds]))
                                      refine onceV (v := .slice (some ⟨g1, 0, none⟩) H.row.length k1) rfl rfl ?_ rfl
                                      simp only [execOp]
                                      go_simp
                                      try go_num
                                      try (rw [IntKind.wrap_i64]; omega)
                                    · refine onceV (v := .int .i64 (p : Int)) rfl rfl ?_ rfl
                                      simp only [execOp]
                                      go_simp
                                      try go_num
                                      try (rw [IntKind.wrap_i64]; omega)
                                    · have x2 := (ev 150 rfl (by decide)).trans (hF 2 (by decide) (by simp [Region.binds]))
                                      refine onceV (v := .int .i64 ((p : Int) + 1)) rfl rfl ?_ rfl
                                      simp only [execOp]
                                      go_simp
                                      try go_num
                                      try (rw [IntKind.wrap_i64]; omega)
                                    · refine onceV (v := .int .i64 (j : Int)) rfl rfl ?_ rfl
                                      simp only [execOp]
                                      go_simp
                                      try go_num
                                      try (rw [IntKind.wrap_i64]; omega)
                                    · have x3 := (ev 151 rfl (by decide)).trans (hF 3 (by decide) (by simp [Region.binds]))
                                      have x4 := (ev 152 rfl (by decide)).trans (hF 4 (by decide) (by simp [Region.binds]))
                                      refine onceV (v := .int .i64 ((p : Int) + 1 + (j : Int))) rfl rfl ?_ rfl
                                      simp only [execOp]
                                      go_simp
                                      try go_num
                                      try (rw [IntKind.wrap_i64]; omega)
                                    · refine onceV (v := .pointer (some ⟨C, 0, none⟩)) rfl rfl ?_ rfl
                                      simp only [execOp]
                                      go_simp
                                      try go_num
                                      try (rw [IntKind.wrap_i64]; omega)
                                    · refine onceV (v := .pointer (some ⟨P, 2, none⟩)) rfl rfl ?_ rfl
                                      simp only [execOp]
                                      go_simp
                                      try go_num
                                      try (rw [IntKind.wrap_i64]; omega)
                                    · have x7 := (ev 155 rfl (by decide)).trans (hF 7 (by decide) (by simp [Region.binds]))
                                      refine onceV (v := .slice (some ⟨g1, 0, none⟩) H.row.length k1) rfl rfl ?_ rfl
                                      simp only [execOp]
                                      go_simp
                                      try go_num
                                      try (rw [IntKind.wrap_i64]; omega)
                                    · refine onceV (v := .int .i64 (p : Int)) rfl rfl ?_ rfl
                                      simp only [execOp]
                                      go_simp
                                      try go_num
                                      try (rw [IntKind.wrap_i64]; omega)
                                    · have x9 := (ev 157 rfl (by decide)).trans (hF 9 (by decide) (by simp [Region.binds]))
                                      refine onceV (v := .int .i64 ((p : Int) + 1)) rfl rfl ?_ rfl
                                      simp only [execOp]
                                      go_simp
                                      try go_num
                                      try (rw [IntKind.wrap_i64]; omega)
                                    · refine onceV (v := .int .i64 (j : Int)) rfl rfl ?_ rfl
                                      simp only [execOp]
                                      go_simp
                                      try go_num
                                      try (rw [IntKind.wrap_i64]; omega)
                                    · have x10 := (ev 158 rfl (by decide)).trans (hF 10 (by decide) (by simp [Region.binds]))
                                      have x11 := (ev 159 rfl (by decide)).trans (hF 11 (by decide) (by simp [Region.binds]))
                                      refine onceV (v := .int .i64 ((p : Int) + 1 + (j : Int))) rfl rfl ?_ rfl
                                      simp only [execOp]
                                      go_simp
                                      try go_num
                                      try (rw [IntKind.wrap_i64]; omega)
                                    · have x8 := (ev 156 rfl (by decide)).trans (hF 8 (by decide) (by simp [Region.binds]))
                                      have x12 := (ev 160 rfl (by decide)).trans (hF 12 (by decide) (by simp [Region.binds]))
                                      refine onceV (v := .pointer (some ⟨g1, p + 1 + j, none⟩)) rfl rfl ?_ rfl
                                      simp only [execOp]
                                      go_simp
                                      try go_num
                                      try (rw [IntKind.wrap_i64]; omega)
                                    · have x13 := (ev 161 rfl (by decide)).trans (hF 13 (by decide) (by simp [Region.binds]))
                                      refine onceV (v := .int .i64 xw) rfl rfl ?_ rfl
                                      simp only [execOp]
                                      go_simp
                                      try go_num
                                      try (rw [IntKind.wrap_i64]; omega)
                                    · exact absurd rfl hkc
                                    · have x1 := (ev 149 rfl (by decide)).trans (hF 1 (by decide) (by simp [Region.binds]))
                                      have x5 := (ev 153 rfl (by decide)).trans (hF 5 (by decide) (by simp [Region.binds]))
                                      refine onceV (v := .pointer (some ⟨g1, p + 1 + j, none⟩)) rfl rfl ?_ rfl
                                      simp only [execOp]
                                      go_simp
                                      try go_num
                                      try (rw [IntKind.wrap_i64]; omega)
                                  · intro o u W ho hAW hF
                                    obtain rfl := Option.some.inj ho
                                    have ev : ∀ s, DR9 s = true → s < 174 → (ovr DR9 A0 u).tmps[s]?.getD undef = u s := fun s h1 h2 => (getD_at _ _).symm.trans (eval_in h1 (by omega))
                                    have o3 : (ovr DR9 A0 u).tmps[3]?.getD undef = _ := (getD_at _ _).symm.trans ((eval_out (D := DR9) (a0 := A0) (u := u) (s := 3) rfl (by omega)).trans e3)
                                    have o5 : (ovr DR9 A0 u).tmps[5]?.getD undef = _ := (getD_at _ _).symm.trans ((eval_out (D := DR9) (a0 := A0) (u := u) (s := 5) rfl (by omega)).trans e5)
                                    have o13 : (ovr DR9 A0 u).tmps[13]?.getD undef = _ := (getD_at _ _).symm.trans ((eval_out (D := DR9) (a0 := A0) (u := u) (s := 13) rfl (by omega)).trans e13)
                                    have o15 : (ovr DR9 A0 u).tmps[15]?.getD undef = _ := (getD_at _ _).symm.trans ((eval_out (D := DR9) (a0 := A0) (u := u) (s := 15) rfl (by omega)).trans e15)
                                    have x6 := (ev 154 rfl (by decide)).trans (hF 6 (by decide) (by simp [Region.binds]))
                                    have x14 := (ev 162 rfl (by decide)).trans (hF 14 (by decide) (by simp [Region.binds]))
                                    refine onceC (f := 71) (args := #[.pointer (some ⟨C, 0, none⟩), .int .i64 xw]) rfl rfl ?_ ((HL.out W hAW).mono ?_)
                                    · simp only [execOp]
                                      go_simp
                                    · rintro e w' ⟨rfl, hS'⟩
                                      exact ⟨_, rfl, hS', rfl⟩
                                  · intro o u W ho hBW hF
                                    obtain rfl := Option.some.inj ho
                                    have ev : ∀ s, DR9 s = true → s < 174 → (ovr DR9 A0 u).tmps[s]?.getD undef = u s := fun s h1 h2 => (getD_at _ _).symm.trans (eval_in h1 (by omega))
                                    have o3 : (ovr DR9 A0 u).tmps[3]?.getD undef = _ := (getD_at _ _).symm.trans ((eval_out (D := DR9) (a0 := A0) (u := u) (s := 3) rfl (by omega)).trans e3)
                                    have o5 : (ovr DR9 A0 u).tmps[5]?.getD undef = _ := (getD_at _ _).symm.trans ((eval_out (D := DR9) (a0 := A0) (u := u) (s := 5) rfl (by omega)).trans e5)
                                    have o13 : (ovr DR9 A0 u).tmps[13]?.getD undef = _ := (getD_at _ _).symm.trans ((eval_out (D := DR9) (a0 := A0) (u := u) (s := 13) rfl (by omega)).trans e13)
                                    have o15 : (ovr DR9 A0 u).tmps[15]?.getD undef = _ := (getD_at _ _).symm.trans ((eval_out (D := DR9) (a0 := A0) (u := u) (s := 15) rfl (by omega)).trans e15)
                                    have x15 := (ev 163 rfl (by decide)).trans (hF 15 (by decide))
                                    have x16 := (ev 164 rfl (by decide)).trans (hF 16 (by decide))
                                    obtain ⟨c0, cf⟩ := own_cellAt hBW.row (q := p + 1 + j) (by rw [hBW.cut.1]; omega)
                                    have HS9 : Hid _ := hBW.setRow HH0.out rfl (p + 1 + j) yw
                                    refine plainS (W' := W.setCell ⟨g1, p + 1 + j, none⟩ (.int .i64 yw)) rfl ?_ ?_
                                    · simp only [execOp]
                                      go_simp
                                    · subst hA0
                                      clear hBW ev c0 cf x15 x16
                                      simp [ovr, DR9, List.range, List.range.loop]
                                      go_wp2_with fail
                                      refine ⟨⟨j + 1, by omega, by go_num, ?_⟩, by simp [intOf]; omega⟩
                                      rw [HNX.out]
                                      exact HS9.out
                                · have hje : j = ss.length := by omega
                                  have hjl' : ¬ (j : Int) < (ss.length : Int) := by omega
                                  have hA9 := HA7.out _ A8
                                  have HA9 : Hid _ := hA9
                                  clear hS hA9 I8 A8
                                  go_wp2_with (go_at_call 54; refine (L2 _).mono ?_; clear L2; rintro e w9 ⟨rfl, hw9⟩; rw [hw9]; clear hw9 w9)
                                  have hf7 := HF7.out
                                  have ha9 := HA9.out
                                  rw [hje] at ha9 HSJ
                                  refine ⟨⟨i + 1, ?_, ?_, ?_, ?_⟩, ?_⟩
                                  · intro j' hj'
                                    by_cases e : j' = i
                                    · subst e; rw [HS7E.out]; exact hltw.out
                                    · exact HALL.out j' (by omega)
                                  · rw [HNX7.out]; exact ha9.2
                                  · rw [HNX7.out, ha9.1, hf7.2.2.2.1]; go_num
                                  · rw [HNX7.out]; exact HSJ.out.back HS8.out.ch
                                  · simp [intOf]; omega
                            · have hie : i = (scanS H (scC H) i).went.length := by omega
                              have hlt' : ¬ ((sumS H ((scanS H (scC H) i).went.take i) : Nat) : Int) < ((scanS H (scC H) i).top : Int) := by have e : sumS H ((scanS H (scC H) i).went.take i) = sumS H (scanS H (scC H) i).went := (by rw [List.take_of_length_le (by omega)]); omega
                              obtain rfl : scavF H ps = RES := HRES.out
                              have hst : (scanS H (scC H) i).went.length ≤ i := by omega
                              have hwl := went_len I7 HRR.out
                              have hsE : scE H ps = (scanS H (scC H) i) := by
                                unfold scE
                                have := scan_stop hst (ps.length + 1 - i)
                                rwa [show i + (ps.length + 1 - i) = ps.length + 1 by omega] at this
                              have hrl : (scE H ps).row.length = H.row.length := by rw [hsE]; exact I7.len
                              have HSE : Hid (Sp H w W wr w.heap.size C P g1 g2 g3 gt k1 k2 k3 (2 * hf H) (.slice a1 H.row.length c1) (.slice a2 H.roots.length c2) (.slice a3 H.mourned.length c3) (.slice a4 H.seen.length c4) (.slice sa sn sc) (scE H ps).row (scE H ps).top (toL H (scE H ps)) (scA H).2 (scB H).2) := by show Sp _ _ _ _ _ _ _ _ _ _ _ _ _ _ _ _ _ _ _ _ _ _ _ _ _; rw [hsE]; exact hS
                              have htE : (scE H ps).top = (scanS H (scC H) i).top := by rw [hsE]
                              rw [← htE] at m4 hlt'
                              have HB1N : Hid _ := nine_ch HW1.out.2 hS.ch (by have := HLE.out; simp; omega)
                              obtain ⟨ps', hp', hup, hNum, hnb⟩ := scav_right HRR.out
                              obtain ⟨u0, hu0⟩ : ∃ u0, upW H = some u0 := by obtain ⟨_, _, _, u, _, hu, _, _⟩ := places_facts HRR.out.some'; exact ⟨u, hu⟩
                              have hl2 : (scA H).2.length = H.roots.length := scA_len H
                              have hl3 : (scB H).2.length = H.mourned.length := scB_len H
                              have HLL : Hid _ := And.intro hrl (And.intro hl2 hl3)
                              have HOW : Hid (∀ V, Sp H w W V w.heap.size C P g1 g2 g3 gt k1 k2 k3 (2 * hf H) (.slice a1 H.row.length c1) (.slice a2 H.roots.length c2) (.slice a3 H.mourned.length c3) (.slice a4 H.seen.length c4) (.slice sa sn sc) (scE H ps).row (scE H ps).top (toL H (scE H ps)) (scA H).2 (scB H).2 → rows.Own V w.heap.size (.slice (some ⟨g1, 0, none⟩) H.row.length k1) (scE H ps).row ∧ rows.Own V w.heap.size (.slice (some ⟨g2, 0, none⟩) H.roots.length k2) (scA H).2 ∧ rows.Own V w.heap.size (.slice (some ⟨g3, 0, none⟩) H.mourned.length k3) (scB H).2) := fun V hV => ⟨by unfold rows.Own; rw [HLL.out.1]; exact hV.row, by unfold rows.Own; rw [HLL.out.2.1]; exact hV.roots, by unfold rows.Own; rw [HLL.out.2.2]; exact hV.mour⟩
                              obtain ⟨q1, q2, q3⟩ := HOW.out wr HSE.out
                              have SE := l9Seen_any (H := scavH H ps) (w := wr) ⟨own_ints q1, own_ints q2, own_ints q3, own_ints hS.seen⟩ hNum (hup.trans hu0)
                              obtain ⟨uu, huu⟩ : ∃ uu, seenL (scavH H ps) = uu := ⟨_, rfl⟩
                              rw [huu] at SE
                              have HUU : Hid (uu = (scavF H ps).seen) := huu.symm
                              have hdf : hpv (scavH H ps) (.slice (some ⟨g1, 0, none⟩) H.row.length k1) (.slice (some ⟨g2, 0, none⟩) H.roots.length k2) (.slice (some ⟨g3, 0, none⟩) H.mourned.length k3) (.slice sa sn sc) = .agg #[.int .i64 H.half, .int .i64 H.old, (.slice (some ⟨g1, 0, none⟩) H.row.length k1), .int .i64 (1 - H.side), .int .i64 ((scE H ps).top : Int), (.slice (some ⟨g2, 0, none⟩) H.roots.length k2), (.slice (some ⟨g3, 0, none⟩) H.mourned.length k3), .slice sa sn sc, .int .i64 H.seed] := rfl
                              rw [hdf] at SE
                              clear hS hst hwl hsE hrl htE hp' hup hNum hnb hu0 hl2 hl3 q1 q2 q3 huu hdf I7 hsum htop hts hall hile hlt hie HALL HI7 HS
                              go_upto_region 39 with (go_at_call 59; refine SE.mono ?_; clear SE m0 m1 m2 m3 m4 m5 m6 m7 m8 z0 z1 z2 z3 z4 z5 z6 z7 z8; rintro e w5 ⟨v5, rfl, O5, b5⟩; have HS9 : Hid _ := HSE.out.grow b5; have HB9 : Hid _ := nine_below HB1N.out b5; have HO5 : Hid _ := O5; have HZ5 : Hid _ := b5.size; obtain ⟨⟨m0, m1, m2, m3, m4⟩, ⟨m5, m6, m7, m8⟩, mf⟩ := nine_cells HS9.out.nine; have f7 := mf 7; obtain ⟨ua, un, uc, rfl⟩ := ints_slice (own_ints O5); clear O5 b5 mf)
                              have HNP : Hid _ := nine_set7 HS9.out.nine (.slice ua un uc)
                              have HNB : Hid _ := nine_ch HB9.out (one_ch w5 P 7 (.slice ua un uc)) (by have := HLE.out; simp; omega)
                              have HLT : Hid _ := HSE.out.lt
                              have HPC : Hid _ := one_ch w5 P 7 (.slice ua un uc)
                              clear m0 m1 m2 m3 m4 m5 m6 m7 m8 f7
                              generalize w5.setCell ⟨P, 7, none⟩ (.slice ua un uc) = Y at *
                              obtain ⟨⟨m0, m1, m2, m3, m4⟩, ⟨m5, m6, m7, m8⟩, _⟩ := nine_cells HNP.out
                              obtain ⟨⟨y0, y1, y2, y3, y4⟩, ⟨y5, y6, y7, y8⟩, yf⟩ := nine_cells HNB.out
                              have f0 := yf 0
                              have f1 := yf 1
                              have f2 := yf 2
                              have f3 := yf 3
                              have f4 := yf 4
                              have f5 := yf 5
                              have f6 := yf 6
                              have f7 := yf 7
                              have f8 := yf 8
                              clear yf
                              have HBE : Hid (Below w.heap.size w Y) := HS9.out.bel.trans (below_ch HPC.out HS9.out.bel.size (fun k hk => by have := HLE.out; simp at hk; omega))
                              go_wp2_with fail
                              refine bodyPost_ret (res_heap rfl rfl (nine_sets HNB.out _ _ _ _ _ _ _ _ _)) rfl ⟨_, _, _, _, rfl, ?_, nine_belows HBE.out (by omega) _ _ _ _ _ _ _ _ _⟩
                              obtain ⟨q1, q2, q3⟩ := HOW.out w5 (HS9.out)
                              have hle := HLE.out
                              have hbl := HS9.out.b
                              have on : ∀ {v : Value} {xs : List Int}, rows.Own w5 w.heap.size v xs → (∀ k ∈ blk v, k ≠ P ∧ k ≠ w.heap.size + 1) → ∀ {W2 : World}, Ch [w.heap.size + 1] Y W2 → rows.Own W2 w.heap.size v xs := fun {v xs} ho hk {W2} hc => row_ch (row_ch ho HPC.out (fun k hk' => by simp; exact (hk k hk').1)) hc (fun k hk' => by simp; exact (hk k hk').2)
                              have k4 : rows.Own w5 w.heap.size (.slice ua un uc) uu := own_base HO5.out (by have := HLT.out; omega)
                              rw [HUU.out] at k4
                              have hb4 := blk_lt HO5.out
                              have hlt9 := HLT.out
                              refine ⟨⟨on q1 (fun k hk => by rw [blk_of] at hk; simp at hk; subst hk; have := hbl.ne2; omega) (nine_other _ _ _ _ _ _ _ _ _), on q2 (fun k hk => by rw [blk_of] at hk; simp at hk; subst hk; have := hbl.ne2; omega) (nine_other _ _ _ _ _ _ _ _ _), on q3 (fun k hk => by rw [blk_of] at hk; simp at hk; subst hk; have := hbl.ne2; omega) (nine_other _ _ _ _ _ _ _ _ _), on k4 (fun k hk => by have := (hb4 k hk).1; omega) (nine_other _ _ _ _ _ _ _ _ _)⟩, ?_⟩
                              have n3 := hbl.ne3
                              cases ua with
                              | none =>
                                show ([g1] ++ [g2] ++ [g3] ++ []).Nodup
                                simp
                                omega
                              | some a =>
                                have q4 := (hb4 a.block (by show _ ∈ [a.block]; simp)).1
                                show ([g1] ++ [g2] ++ [g3] ++ [a.block]).Nodup
                                simp
                                omega
end Go.Proofs.YtmhbdmmpmagbkaaGreat.hp
