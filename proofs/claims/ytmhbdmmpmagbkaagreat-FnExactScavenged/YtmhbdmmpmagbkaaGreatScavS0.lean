/-
  Chapter 11 as the specification has it: the memory of what is carried.
  Made from the template ScavS0 (mkscavs0.py).
-/
import Derived.Test.YtmhbdmmpmagbkaaGreatM7
import Derived.Test.YtmhbdmmpmagbkaaGreatStrS0
import Derived.Test.YtmhbdmmpmagbkaaGreatM6
import Derived.Test.YtmhbdmmpmagbkaaGreatRegionOnce
import Derived.Test.YtmhbdmmpmagbkaaGreatM1
import Derived.Deep.RegionLaw
namespace Go.Proofs.YtmhbdmmpmagbkaaGreat.hp
open Go.RowKit rows heads words walks region
set_option maxRecDepth 100000
set_option linter.unusedVariables false
set_option linter.unusedSimpArgs false

/-- Who went where, by place that was. -/
def toL (H : Hp) (s : Sv) : List Int := (List.range (2 * hf H)).map (fun a => match look s.went a with | some t => (t : Int) | none => -1)
theorem toL_len (H : Hp) (s : Sv) : (toL H s).length = 2 * hf H := by simp [toL]
theorem toL_get {H : Hp} {s : Sv} {a : Nat} (h : a < 2 * hf H) : (toL H s).getD a 0 = match look s.went a with | some t => (t : Int) | none => -1 := by
  unfold toL
  rw [List.getD_eq_getElem?_getD, List.getElem?_map, List.getElem?_range h]
  rfl
theorem look_snoc {l : List (Nat × Nat)} {a t b : Nat} (h : look l a = none) : look (l ++ [(a, t)]) b = if b = a then some t else look l b := by
  unfold look at h ⊢
  rw [List.find?_append]
  by_cases e : b = a
  · subst e
    rw [Option.map_eq_none_iff] at h
    rw [h, if_pos rfl]
    simp
  · rw [if_neg e]
    cases hf : l.find? (fun e => e.1 == b) with
    | some x => simp
    | none => simp [Ne.symm e]
theorem toL_carry {H : Hp} {s : Sv} {a : Nat} (h : look s.went a = none) : (toL H s).set a ((nb H + s.top : Nat) : Int) = toL H (carryS H s a) := by
  apply List.ext_getElem?
  intro b
  rw [List.getElem?_set]
  by_cases hb : b < 2 * hf H
  · have e : ∀ s', (toL H s')[b]? = some (match look s'.went b with | some t => (t : Int) | none => -1) := fun s' => by
      unfold toL
      rw [List.getElem?_map, List.getElem?_range hb]
      rfl
    rw [e, e]
    show _ = some (match look (s.went ++ [(a, nb H + s.top)]) b with | some t => (t : Int) | none => -1)
    rw [look_snoc h]
    by_cases ea : a = b
    · subst ea
      rw [if_pos rfl, if_pos rfl, toL_len, if_pos hb]
    · rw [if_neg ea, if_neg (Ne.symm ea)]
  · rw [List.getElem?_eq_none (by rw [toL_len]; omega), List.getElem?_eq_none (by rw [toL_len]; omega)]
    by_cases ea : a = b
    · subst ea; rw [if_pos rfl, toL_len, if_neg hb]
    · rw [if_neg ea]
/-- The block of what is carried: the heap that was, the one that is made, who went where. -/
abbrev cyb (H : Hp) (P gt kt : Nat) (vr vo vm vs : Value) : Obj := .cells #[.int .i64 H.half, .int .i64 H.old, vr, .int .i64 H.side, .int .i64 H.top, vo, vm, vs, .int .i64 H.seed, .pointer (some ⟨P, 0, none⟩), (.slice (some ⟨gt, 0, none⟩) (2 * hf H) kt)] 95 (0, 0)
structure Blks (base C P gr go gm gt : Nat) (vz : Value) : Prop where
  sn : ∀ k ∈ blk vz, k ≠ gr ∧ k ≠ go ∧ k ≠ gm ∧ k ≠ gt ∧ k ≠ P
  le : base ≤ C ∧ base ≤ P ∧ base ≤ gr ∧ base ≤ go ∧ base ≤ gm ∧ base ≤ gt
  ne : C ≠ P ∧ C ≠ gr ∧ C ≠ go ∧ C ≠ gm ∧ C ≠ gt
  ne2 : P ≠ gr ∧ P ≠ go ∧ P ≠ gm ∧ P ≠ gt
  ne3 : gr ≠ go ∧ gr ≠ gm ∧ gr ≠ gt ∧ go ≠ gm ∧ go ≠ gt ∧ gm ≠ gt
/-- What is so while words are led anew. -/
structure Sp (H : Hp) (w0 wb W : World) (base C P gr go gm gt kr ko km kt : Nat) (vr vo vm vs vz : Value) (xr : List Int) (tt : Nat) (tl rs ms : List Int) : Prop where
  b : Blks base C P gr go gm gt vz
  c : W.heap[C]? = some (cyb H P gt kt vr vo vm vs)
  nine : Nine W P 31 (.int .i64 H.half) (.int .i64 H.old) (.slice (some ⟨gr, 0, none⟩) H.row.length kr) (.int .i64 (1 - H.side)) (.int .i64 (tt : Int)) (.slice (some ⟨go, 0, none⟩) H.roots.length ko) (.slice (some ⟨gm, 0, none⟩) H.mourned.length km) vz (.int .i64 H.seed)
  row : W.ownsRow base 2 1 (.slice (some ⟨gr, 0, none⟩) H.row.length kr) H.row.length (cellsOf xr)
  roots : W.ownsRow base 2 1 (.slice (some ⟨go, 0, none⟩) H.roots.length ko) H.roots.length (cellsOf rs)
  mour : W.ownsRow base 2 1 (.slice (some ⟨gm, 0, none⟩) H.mourned.length km) H.mourned.length (cellsOf ms)
  tol : W.ownsRow base 2 1 (.slice (some ⟨gt, 0, none⟩) (2 * hf H) kt) (2 * hf H) (cellsOf tl)
  seen : rows.Own W base vz H.seen
  was : HpAt W vr vo vm vs H
  bel : Below base w0 W
  ch : Ch [P, gr, go, gm, gt] wb W
theorem Sp.grow {W' : World} {H : Hp} {w0 wb W : World} {base C P gr go gm gt kr ko km kt : Nat} {vr vo vm vs vz : Value} {xr tl rs ms : List Int} {tt : Nat} (h : Sp H w0 wb W base C P gr go gm gt kr ko km kt vr vo vm vs vz xr tt tl rs ms) (hb : Below W.heap.size W W') : Sp H w0 wb W' base C P gr go gm gt kr ko km kt vr vo vm vs vz xr tt tl rs ms :=
  ⟨h.b, (hb.block C (lt_of_block h.c)).trans h.c, nine_below h.nine hb, row_ch (S := []) h.row (ch_below hb) (by simp), row_ch (S := []) h.roots (ch_below hb) (by simp), row_ch (S := []) h.mour (ch_below hb) (by simp), row_ch (S := []) h.tol (ch_below hb) (by simp), row_ch (S := []) h.seen (ch_below hb) (by simp), hpAt_below h.was hb, h.bel.trans (hb.mono (by
    have := (blk_lt h.row gr (by rw [blk_of]; simp))
    omega)), h.ch.trans (ch_below hb)⟩
theorem hpAt_keep {base : Nat} {w0 W : World} {vr vo vm vs : Value} {H : Hp} (h : HpAt w0 vr vo vm vs H) (hb : Below base w0 W) (he : base = w0.heap.size) : HpAt W vr vo vm vs H := hpAt_below h (he ▸ hb)
theorem Sp.lt {H : Hp} {w0 wb W : World} {base C P gr go gm gt kr ko km kt : Nat} {vr vo vm vs vz : Value} {xr tl rs ms : List Int} {tt : Nat} (h : Sp H w0 wb W base C P gr go gm gt kr ko km kt vr vo vm vs vz xr tt tl rs ms) : C < W.heap.size ∧ P < W.heap.size ∧ gr < W.heap.size ∧ go < W.heap.size ∧ gm < W.heap.size ∧ gt < W.heap.size :=
  ⟨lt_of_block h.c, lt_of_block h.nine, (blk_lt h.row gr (by rw [blk_of]; simp)).2, (blk_lt h.roots go (by rw [blk_of]; simp)).2, (blk_lt h.mour gm (by rw [blk_of]; simp)).2, (blk_lt h.tol gt (by rw [blk_of]; simp)).2⟩
/-- A word of the row is written. -/
theorem Sp.setRow {H : Hp} {w0 wb W : World} {base C P gr go gm gt kr ko km kt : Nat} {vr vo vm vs vz : Value} {xr tl rs ms : List Int} {tt : Nat} (h : Sp H w0 wb W base C P gr go gm gt kr ko km kt vr vo vm vs vz xr tt tl rs ms) (hw0 : HpAt w0 vr vo vm vs H) (hbs : base = w0.heap.size) (q : Nat) (x : Int) : Sp H w0 wb (W.setCell ⟨gr, q, none⟩ (.int .i64 x)) base C P gr go gm gt kr ko km kt vr vo vm vs vz (xr.set q x) tt tl rs ms := by
  obtain ⟨n1, n2, n3⟩ := And.intro h.b.ne (And.intro h.b.ne2 h.b.ne3)
  have hb : Below base w0 (W.setCell ⟨gr, q, none⟩ (.int .i64 x)) := h.bel.trans ((Below.refl base W).setCell (p := ⟨gr, q, none⟩) h.b.le.2.2.1 _)
  exact ⟨h.b, ((one_ch W gr q _).block C (lt_of_block h.c) (by simp; omega)).trans h.c, nine_ch h.nine (one_ch _ gr _ _) (by simp; omega), by have := (World.ownsRow.stored h.row q (.int .i64 x)).1; rw [cells_set] at this; exact this, row_ch (S := [gr]) h.roots (one_ch _ _ _ _) (fun k hk => by rw [blk_of] at hk; simp at hk ⊢; omega), row_ch (S := [gr]) h.mour (one_ch _ _ _ _) (fun k hk => by rw [blk_of] at hk; simp at hk ⊢; omega), row_ch (S := [gr]) h.tol (one_ch _ _ _ _) (fun k hk => by rw [blk_of] at hk; simp at hk ⊢; omega), row_ch (S := [gr]) h.seen (one_ch _ _ _ _) (fun k hk => by simp; exact (h.b.sn k hk).1), hpAt_keep hw0 hb hbs, hb, h.ch.trans ((one_ch _ gr _ _).mono (by simp))⟩
theorem Sp.setRoot {H : Hp} {w0 wb W : World} {base C P gr go gm gt kr ko km kt : Nat} {vr vo vm vs vz : Value} {xr tl rs ms : List Int} {tt : Nat} (h : Sp H w0 wb W base C P gr go gm gt kr ko km kt vr vo vm vs vz xr tt tl rs ms) (hw0 : HpAt w0 vr vo vm vs H) (hbs : base = w0.heap.size) (q : Nat) (x : Int) : Sp H w0 wb (W.setCell ⟨go, q, none⟩ (.int .i64 x)) base C P gr go gm gt kr ko km kt vr vo vm vs vz xr tt tl (rs.set q x) ms := by
  obtain ⟨n1, n2, n3⟩ := And.intro h.b.ne (And.intro h.b.ne2 h.b.ne3)
  have hb : Below base w0 (W.setCell ⟨go, q, none⟩ (.int .i64 x)) := h.bel.trans ((Below.refl base W).setCell (p := ⟨go, q, none⟩) h.b.le.2.2.2.1 _)
  exact ⟨h.b, ((one_ch W go q _).block C (lt_of_block h.c) (by simp; omega)).trans h.c, nine_ch h.nine (one_ch _ go _ _) (by simp; omega), row_ch (S := [go]) h.row (one_ch _ _ _ _) (fun k hk => by rw [blk_of] at hk; simp at hk ⊢; omega), by have := (World.ownsRow.stored h.roots q (.int .i64 x)).1; rw [cells_set] at this; exact this, row_ch (S := [go]) h.mour (one_ch _ _ _ _) (fun k hk => by rw [blk_of] at hk; simp at hk ⊢; omega), row_ch (S := [go]) h.tol (one_ch _ _ _ _) (fun k hk => by rw [blk_of] at hk; simp at hk ⊢; omega), row_ch (S := [go]) h.seen (one_ch _ _ _ _) (fun k hk => by simp; exact (h.b.sn k hk).2.1), hpAt_keep hw0 hb hbs, hb, h.ch.trans ((one_ch _ go _ _).mono (by simp))⟩
theorem Sp.setMour {H : Hp} {w0 wb W : World} {base C P gr go gm gt kr ko km kt : Nat} {vr vo vm vs vz : Value} {xr tl rs ms : List Int} {tt : Nat} (h : Sp H w0 wb W base C P gr go gm gt kr ko km kt vr vo vm vs vz xr tt tl rs ms) (hw0 : HpAt w0 vr vo vm vs H) (hbs : base = w0.heap.size) (q : Nat) (x : Int) : Sp H w0 wb (W.setCell ⟨gm, q, none⟩ (.int .i64 x)) base C P gr go gm gt kr ko km kt vr vo vm vs vz xr tt tl rs (ms.set q x) := by
  obtain ⟨n1, n2, n3⟩ := And.intro h.b.ne (And.intro h.b.ne2 h.b.ne3)
  have hb : Below base w0 (W.setCell ⟨gm, q, none⟩ (.int .i64 x)) := h.bel.trans ((Below.refl base W).setCell (p := ⟨gm, q, none⟩) h.b.le.2.2.2.2.1 _)
  exact ⟨h.b, ((one_ch W gm q _).block C (lt_of_block h.c) (by simp; omega)).trans h.c, nine_ch h.nine (one_ch _ gm _ _) (by simp; omega), row_ch (S := [gm]) h.row (one_ch _ _ _ _) (fun k hk => by rw [blk_of] at hk; simp at hk ⊢; omega), row_ch (S := [gm]) h.roots (one_ch _ _ _ _) (fun k hk => by rw [blk_of] at hk; simp at hk ⊢; omega), by have := (World.ownsRow.stored h.mour q (.int .i64 x)).1; rw [cells_set] at this; exact this, row_ch (S := [gm]) h.tol (one_ch _ _ _ _) (fun k hk => by rw [blk_of] at hk; simp at hk ⊢; omega), row_ch (S := [gm]) h.seen (one_ch _ _ _ _) (fun k hk => by simp; exact (h.b.sn k hk).2.2.1), hpAt_keep hw0 hb hbs, hb, h.ch.trans ((one_ch _ gm _ _).mono (by simp))⟩
/-- Who went where is told. -/
theorem Sp.setTo {H : Hp} {w0 wb W : World} {base C P gr go gm gt kr ko km kt : Nat} {vr vo vm vs vz : Value} {xr tl rs ms : List Int} {tt : Nat} (h : Sp H w0 wb W base C P gr go gm gt kr ko km kt vr vo vm vs vz xr tt tl rs ms) (hw0 : HpAt w0 vr vo vm vs H) (hbs : base = w0.heap.size) (q : Nat) (x : Int) : Sp H w0 wb (W.setCell ⟨gt, q, none⟩ (.int .i64 x)) base C P gr go gm gt kr ko km kt vr vo vm vs vz xr tt (tl.set q x) rs ms := by
  obtain ⟨n1, n2, n3⟩ := And.intro h.b.ne (And.intro h.b.ne2 h.b.ne3)
  have hb : Below base w0 (W.setCell ⟨gt, q, none⟩ (.int .i64 x)) := h.bel.trans ((Below.refl base W).setCell (p := ⟨gt, q, none⟩) h.b.le.2.2.2.2.2 _)
  exact ⟨h.b, ((one_ch W gt q _).block C (lt_of_block h.c) (by simp; omega)).trans h.c, nine_ch h.nine (one_ch _ gt _ _) (by simp; omega), row_ch (S := [gt]) h.row (one_ch _ _ _ _) (fun k hk => by rw [blk_of] at hk; simp at hk ⊢; omega), row_ch (S := [gt]) h.roots (one_ch _ _ _ _) (fun k hk => by rw [blk_of] at hk; simp at hk ⊢; omega), row_ch (S := [gt]) h.mour (one_ch _ _ _ _) (fun k hk => by rw [blk_of] at hk; simp at hk ⊢; omega), by have := (World.ownsRow.stored h.tol q (.int .i64 x)).1; rw [cells_set] at this; exact this, row_ch (S := [gt]) h.seen (one_ch _ _ _ _) (fun k hk => by simp; exact (h.b.sn k hk).2.2.2.1), hpAt_keep hw0 hb hbs, hb, h.ch.trans ((one_ch _ gt _ _).mono (by simp))⟩
theorem Sp.setTop {H : Hp} {w0 wb W : World} {base C P gr go gm gt kr ko km kt : Nat} {vr vo vm vs vz : Value} {xr tl rs ms : List Int} {tt : Nat} (h : Sp H w0 wb W base C P gr go gm gt kr ko km kt vr vo vm vs vz xr tt tl rs ms) (hw0 : HpAt w0 vr vo vm vs H) (hbs : base = w0.heap.size) (t' : Nat) : Sp H w0 wb (W.setCell ⟨P, 4, none⟩ (.int .i64 (t' : Int))) base C P gr go gm gt kr ko km kt vr vo vm vs vz xr t' tl rs ms := by
  obtain ⟨n1, n2, n3⟩ := And.intro h.b.ne (And.intro h.b.ne2 h.b.ne3)
  have hb : Below base w0 (W.setCell ⟨P, 4, none⟩ (.int .i64 (t' : Int))) := h.bel.trans ((Below.refl base W).setCell (p := ⟨P, 4, none⟩) h.b.le.2.1 _)
  exact ⟨h.b, ((one_ch W P 4 _).block C (lt_of_block h.c) (by simp; omega)).trans h.c, nine_set4 h.nine _, row_ch (S := [P]) h.row (one_ch _ _ _ _) (fun k hk => by rw [blk_of] at hk; simp at hk ⊢; omega), row_ch (S := [P]) h.roots (one_ch _ _ _ _) (fun k hk => by rw [blk_of] at hk; simp at hk ⊢; omega), row_ch (S := [P]) h.mour (one_ch _ _ _ _) (fun k hk => by rw [blk_of] at hk; simp at hk ⊢; omega), row_ch (S := [P]) h.tol (one_ch _ _ _ _) (fun k hk => by rw [blk_of] at hk; simp at hk ⊢; omega), row_ch (S := [P]) h.seen (one_ch _ _ _ _) (fun k hk => by simp; exact (h.b.sn k hk).2.2.2.2), hpAt_keep hw0 hb hbs, hb, h.ch.trans ((one_ch _ P _ _).mono (by simp))⟩
theorem cyb_cells {W : World} {C : Nat} {H : Hp} {P gt kt : Nat} {vr vo vm vs : Value} (h : W.heap[C]? = some (cyb H P gt kt vr vo vm vs)) : (W.cell? ⟨C, 0, none⟩ = some (.int .i64 H.half) ∧ W.cell? ⟨C, 1, none⟩ = some (.int .i64 H.old) ∧ W.cell? ⟨C, 2, none⟩ = some vr ∧ W.cell? ⟨C, 3, none⟩ = some (.int .i64 H.side) ∧ W.cell? ⟨C, 4, none⟩ = some (.int .i64 H.top) ∧ W.cell? ⟨C, 5, none⟩ = some vo ∧ W.cell? ⟨C, 6, none⟩ = some vm ∧ W.cell? ⟨C, 7, none⟩ = some vs ∧ W.cell? ⟨C, 8, none⟩ = some (.int .i64 H.seed)) ∧ W.cell? ⟨C, 9, none⟩ = some (.pointer (some ⟨P, 0, none⟩)) ∧ W.cell? ⟨C, 10, none⟩ = some (.slice (some ⟨gt, 0, none⟩) (2 * hf H) kt) := by
  refine ⟨⟨?_, ?_, ?_, ?_, ?_, ?_, ?_, ?_, ?_⟩, ?_, ?_⟩ <;> simp [World.cell?, h]
theorem own_cellAt {W : World} {base g n k : Nat} {xs : List Int} (h : W.ownsRow base 2 1 (.slice (some ⟨g, 0, none⟩) n k) n (cellsOf xs)) {q : Nat} (hq : q < xs.length) : W.cell? ⟨g, q, none⟩ = some (.int .i64 (xs.getD q 0)) ∧ W.frozen? ⟨g, q, none⟩ = false := by
  have hl : xs.length = n := by have := h.1; simpa [cellsOf] using this
  refine ⟨?_, World.ownsRow.frozenAt h q⟩
  rw [World.ownsRow.cellAt h q (by omega)]
  simp [cellsOf, hq, List.getD_eq_getElem?_getD]
end Go.Proofs.YtmhbdmmpmagbkaaGreat.hp
