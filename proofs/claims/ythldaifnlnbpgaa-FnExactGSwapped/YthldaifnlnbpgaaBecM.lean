/-
  Chapter 18: a graph whose refs are turned, list by list: as mathematics, and as it lies while this is done.
  Made from the template BecM.
-/
import Derived.Test.YthldaifnlnbpgaaGraphISlot
namespace Go.Proofs.Ythldaifnlnbpgaa.gr
open Go.RowKit rows heads
set_option maxRecDepth 100000
set_option linter.unusedVariables false
set_option linter.unusedSimpArgs false

/-- A ref where what leads to x leads to y, and (with both) the other way round. -/
def bRef (x y : Int) (both : Bool) (r : Rf) : Rf := if (r.1 == 2 && r.2 == x) = true then (r.1, y) else if (r.1 == 2 && r.2 == y && both) = true then (r.1, x) else r
def bObj (f : Rf → Rf) (o : Ob) : Ob := { o with slots := o.slots.map f }
/-- All refs of a graph turned. -/
def bAll (f : Rf → Rf) (G : Gr) : Gr := ⟨G.objs.map (bObj f), G.roots.map f, G.mourned.map f, G.next, G.seed⟩
def bCan (G : Gr) (a b : Int) : Bool := leads G a && (leads G b && (rootAt G a).2 != (rootAt G b).2)
def turned (G : Gr) (a b : Int) (both : Bool) : Gr × Bool := if bCan G a b = true then (bAll (bRef (rootAt G a).2 (rootAt G b).2 both) G, true) else (G, false)
def gTurned (G : Gr) (a b : Int) (both : Bool) : Gr × Bool := if gOk G = true then turned G a b both else (gr0, false)
theorem turned_no {G : Gr} {a b : Int} {both : Bool} (h : bCan G a b = false) : turned G a b both = (G, false) := by unfold turned; rw [h]; rfl
theorem turned_yes {G : Gr} {a b : Int} {both : Bool} (h : bCan G a b = true) : turned G a b both = (bAll (bRef (rootAt G a).2 (rootAt G b).2 both) G, true) := by unfold turned; rw [if_pos h]

/-- The first i refs of a list are turned. -/
def mapUp (f : Rf → Rf) (i : Nat) (es : List Rf) : List Rf := (es.take i).map f ++ es.drop i
/-- The list k, when all ahead of the list j are turned, and i refs of that. -/
def upTo (f : Rf → Rf) (j k i : Nat) (es : List Rf) : List Rf := if k < j then es.map f else if k = j then mapUp f i es else es
theorem mapUp_zero (f : Rf → Rf) (es : List Rf) : mapUp f 0 es = es := by simp [mapUp]
theorem mapUp_all (f : Rf → Rf) (es : List Rf) : mapUp f es.length es = es.map f := by simp [mapUp]
theorem mapUp_len (f : Rf → Rf) (i : Nat) (es : List Rf) : (mapUp f i es).length = es.length := by simp [mapUp]; omega
theorem mapUp_at {f : Rf → Rf} {i : Nat} {es : List Rf} (h : i < es.length) : (mapUp f i es).getD i refD = es.getD i refD := by
  unfold mapUp
  rw [List.getD_eq_getElem?_getD, List.getElem?_append_right (by simp; omega)]
  simp [List.getD_eq_getElem?_getD, Nat.min_eq_left (Nat.le_of_lt h)]
theorem mapUp_set {f : Rf → Rf} {i : Nat} {es : List Rf} (h : i < es.length) : (mapUp f i es).set i (f (es.getD i refD)) = mapUp f (i + 1) es := by
  unfold mapUp
  have e1 : es.drop i = es.getD i refD :: es.drop (i + 1) := by
    rw [List.getD_eq_getElem?_getD, List.getElem?_eq_getElem h]
    exact (List.getElem_cons_drop h).symm
  have e2 : es.take (i + 1) = es.take i ++ [es.getD i refD] := by
    rw [List.getD_eq_getElem?_getD, List.getElem?_eq_getElem h]
    simp
  rw [List.set_append_right _ _ (by simp; omega), e2, e1]
  simp [Nat.min_eq_left (Nat.le_of_lt h)]
theorem mapUp_same {f : Rf → Rf} {i : Nat} {es : List Rf} (h : i < es.length) (e : f (es.getD i refD) = es.getD i refD) : mapUp f (i + 1) es = mapUp f i es := by
  rw [← mapUp_set h, e, List.getD_eq_getElem?_getD]
  have hl : i < (mapUp f i es).length := by rw [mapUp_len]; exact h
  have e2 := mapUp_at (f := f) h
  rw [List.getD_eq_getElem?_getD, List.getElem?_eq_getElem hl, List.getD_eq_getElem?_getD] at e2
  simp only [Option.getD_some] at e2
  rw [← e2, List.set_getElem_self]
theorem upTo_len (f : Rf → Rf) (j k i : Nat) (es : List Rf) : (upTo f j k i es).length = es.length := by
  unfold upTo
  split
  · simp
  · split
    · exact mapUp_len _ _ _
    · rfl
theorem upTo_zero (f : Rf → Rf) (k : Nat) (es : List Rf) : upTo f 0 k 0 es = es := by
  unfold upTo
  rw [if_neg (by omega)]
  split
  · exact mapUp_zero _ _
  · rfl
theorem upTo_here (f : Rf → Rf) (j i : Nat) (es : List Rf) : upTo f j j i es = mapUp f i es := by
  unfold upTo
  rw [if_neg (by omega), if_pos rfl]
theorem upTo_other (f : Rf → Rf) {j k : Nat} (i i' : Nat) (es : List Rf) (h : k ≠ j) : upTo f j k i es = upTo f j k i' es := by
  unfold upTo
  rw [if_neg h, if_neg h]
theorem upTo_next (f : Rf → Rf) {j k i : Nat} (es : List Rf) (h : k = j → i = es.length) : upTo f j k i es = upTo f (j + 1) k 0 es := by
  unfold upTo
  by_cases e : k = j
  · rw [if_neg (by omega), if_pos e, if_pos (by omega), h e, mapUp_all]
  · by_cases e2 : k < j
    · rw [if_pos e2, if_pos (by omega)]
    · rw [if_neg e2, if_neg e, if_neg (by omega)]
      split
      · exact (mapUp_zero _ _).symm
      · rfl
theorem upTo_past (f : Rf → Rf) {j k : Nat} (i : Nat) (es : List Rf) (h : k < j) : upTo f j k i es = es.map f := by
  unfold upTo
  rw [if_pos h]

/-- The lists of refs of a graph, as values and as what they hold: Roots, Mourned, the Slots of each. -/
def lvK (r m : Value) (ms : List MO) : Nat → Value
  | 0 => r
  | 1 => m
  | k + 2 => (ms.getD k moD).sv
def leK (G : Gr) (ms : List MO) : Nat → List Rf
  | 0 => G.roots
  | 1 => G.mourned
  | k + 2 => (ms.getD k moD).slots
theorem lvK_in {o r m : Value} {ms : List MO} {k : Nat} (hk : k < ms.length + 2) {b : Nat} (h : b ∈ blk (lvK r m ms k)) : b ∈ gblk o r m ms := by
  unfold gblk
  simp only [List.mem_append]
  match k, hk, h with
  | 0, _, h => exact .inl (.inr h)
  | 1, _, h => exact .inr h
  | k + 2, hk, h =>
    refine .inl (.inl (.inr ?_))
    simp only [blks, List.mem_flatMap]
    exact ⟨_, mem_getD (by omega), h⟩
theorem lvK_apart {o r m : Value} {ms : List MO} (nd : (gblk o r m ms).Nodup) {j k : Nat} (hj : j < ms.length + 2) (hk : k < ms.length + 2) (hne : k ≠ j) {b : Nat} (h : b ∈ blk (lvK r m ms j)) : b ∉ blk (lvK r m ms k) := by
  have nd' := nd
  simp only [gblk, List.nodup_append, List.mem_append] at nd'
  obtain ⟨⟨⟨n1, n2, d12⟩, n3, d123⟩, n4, d1234⟩ := nd'
  have hin : ∀ i, i < ms.length → ∀ x ∈ blk (ms.getD i moD).sv, x ∈ blks ms := fun i hi x hx => by
    simp only [blks, List.mem_flatMap]
    exact ⟨_, mem_getD hi, hx⟩
  have hO : (blk o ++ blks ms).Nodup := by
    rw [List.nodup_append]
    exact ⟨n1, n2, d12⟩
  intro h'
  match j, k, hj, hk, hne, h, h' with
  | 0, 0, _, _, hne, _, _ => exact hne rfl
  | 1, 1, _, _, hne, _, _ => exact hne rfl
  | 0, 1, _, _, _, h, h' => exact d1234 b (.inr h) b h' rfl
  | 1, 0, _, _, _, h, h' => exact d1234 b (.inr h') b h rfl
  | 0, k + 2, _, hk, _, h, h' => exact d123 b (.inr (hin k (by omega) b h')) b h rfl
  | k + 2, 0, hk, _, _, h, h' => exact d123 b (.inr (hin k (by omega) b h)) b h' rfl
  | 1, k + 2, _, hk, _, h, h' => exact d1234 b (.inl (.inr (hin k (by omega) b h'))) b h rfl
  | k + 2, 1, hk, _, _, h, h' => exact d1234 b (.inl (.inr (hin k (by omega) b h))) b h' rfl
  | j + 2, k + 2, hj, hk, hne, h, h' => exact (apart hO).2 j k (by omega) (by omega) (by omega) b h h'

/-- A graph of the call's own while its refs are turned: all lists ahead of the list j, and i refs of that. -/
structure BS (w0 w : World) (base P : Nat) (o r m : Value) (ms : List MO) (G : Gr) (f : Rf → Rf) (j i : Nat) : Prop where
  T : Five w P 30 o r m (.int .i64 G.next) (.int .i64 G.seed)
  abs : ms.map MO.abs = G.objs
  row : OwnRow w base o ms
  lst : ∀ k, k < ms.length + 2 → OwnR w base (lvK r m ms k) (upTo f j k i (leK G ms k))
  nd : (gblk o r m ms).Nodup
  nP : P ∉ gblk o r m ms
  hb : base ≤ P
  lt : ∀ b ∈ gblk o r m ms, b < w0.heap.size
  bel : Below base w0 w
section
variable {w0 w : World} {base P : Nat} {o r m : Value} {ms : List MO} {G : Gr} {f : Rf → Rf} {j i : Nat}
theorem bs_zero (T : Five w P 30 o r m (.int .i64 G.next) (.int .i64 G.seed)) (O : OwnG w base o r m ms G) (N : P ∉ gblk o r m ms) (hb : base ≤ P) : BS w w base P o r m ms G f 0 0 := by
  refine ⟨T, O.1, O.2.1.1, fun k hk => ?_, O.2.2.2.2, N, hb, fun b h => (ownG_lt O b h).2, Below.refl _ _⟩
  rw [upTo_zero]
  match k, hk with
  | 0, _ => exact O.2.2.1
  | 1, _ => exact O.2.2.2.1
  | k + 2, hk => exact O.2.1.2.1 _ (mem_getD (by omega))
theorem BS.size (h : BS w0 w base P o r m ms G f j i) : base ≤ w.heap.size := by
  have := lt_of_block h.T
  have := h.hb
  omega
theorem BS.below {w' : World} (h : BS w0 w base P o r m ms G f j i) (hb : Below w.heap.size w w') : BS w0 w' base P o r m ms G f j i :=
  ⟨five_below h.T hb, h.abs, row_below h.row hb, fun k hk => ownR_below (h.lst k hk) hb, h.nd, h.nP, h.hb, h.lt, h.bel.trans (hb.mono h.size)⟩
/-- How the list j lies. -/
theorem BS.form (h : BS w0 w base P o r m ms G f j i) {k : Nat} (hk : k < ms.length + 2) : ∃ a c, lvK r m ms k = .slice a (leK G ms k).length c ∧ (leK G ms k).length ≤ maxLen ∧ (0 < (leK G ms k).length → ∃ q, a = some ⟨q, 0, none⟩) := by
  have O := h.lst k hk
  unfold OwnR at O
  rw [upTo_len] at O
  obtain ⟨_, ⟨e, hn⟩ | ⟨g, cap, cur, e, hg, hh, hle, hm, _⟩⟩ := O
  · exact ⟨none, 0, by rw [e, hn], by omega, fun h => by omega⟩
  · exact ⟨_, cap, e, by omega, fun _ => ⟨g, rfl⟩⟩
theorem BS.cell (h : BS w0 w base P o r m ms G f j i) (hj : j < ms.length + 2) (hi : i < (leK G ms j).length) {q n c : Nat} (hv : lvK r m ms j = .slice (some ⟨q, 0, none⟩) n c) :
    w.cell? ⟨q, i * 2, none⟩ = some (.int .i64 ((leK G ms j).getD i refD).1) ∧ w.cell? ⟨q, i * 2 + 1, none⟩ = some (.int .i64 ((leK G ms j).getD i refD).2) ∧ w.frozen? ⟨q, i * 2, none⟩ = false ∧ w.frozen? ⟨q, i * 2 + 1, none⟩ = false := by
  have O := h.lst j hj
  rw [hv, upTo_here] at O
  have C := ownR_cell O (i := i) (by rw [mapUp_len]; exact hi)
  rw [mapUp_at hi] at C
  exact ⟨C.1, C.2, row_frozen O _, row_frozen O _⟩
theorem BS.set (h : BS w0 w base P o r m ms G f j i) (hj : j < ms.length + 2) (hi : i < (leK G ms j).length) {q n c : Nat} (hv : lvK r m ms j = .slice (some ⟨q, 0, none⟩) n c) :
    BS w0 (put2 w q i (f ((leK G ms j).getD i refD))) base P o r m ms G f j (i + 1) := by
  have hq : q ∈ blk (lvK r m ms j) := by rw [hv, blk_some]; simp
  have hqg := lvK_in (o := o) hj hq
  have O := h.lst j hj
  have C := put2_ch w q i (f ((leK G ms j).getD i refD))
  have hqb : base ≤ q := (blk_lt O q hq).1
  have hrow : ∀ x ∈ blk o, x ∉ [q] := fun x hx e => by
    rw [List.mem_singleton] at e
    subst e
    have nd := h.nd
    simp only [gblk, List.nodup_append, List.mem_append] at nd
    obtain ⟨⟨⟨n1, n2, d12⟩, n3, d123⟩, n4, d1234⟩ := nd
    match j, hj, hq with
    | 0, _, hq => exact d123 _ (.inl hx) _ hq rfl
    | 1, _, hq => exact d1234 _ (.inl (.inl hx)) _ hq rfl
    | k + 2, hj, hq => exact d12 _ hx _ (by simp only [blks, List.mem_flatMap]; exact ⟨_, mem_getD (by omega), hq⟩) rfl
  refine ⟨five_ch h.T C (fun e => h.nP ((List.mem_singleton.1 e) ▸ hqg)), h.abs, row_ch h.row C hrow, fun k hk => ?_, h.nd, h.nP, h.hb, h.lt, h.bel.trans (((Below.refl _ w).setCell (p := ⟨q, i * 2, none⟩) hqb _).setCell (p := ⟨q, i * 2 + 1, none⟩) hqb _)⟩
  by_cases e : k = j
  · subst e
    rw [upTo_here, ← mapUp_set hi]
    rw [hv, upTo_here] at O
    rw [hv]
    exact ownR_set O i _
  · rw [upTo_other f (i + 1) i _ e]
    exact row_ch (h.lst k hk) C (fun x hx ex => by
      rw [List.mem_singleton] at ex
      subst ex
      exact lvK_apart h.nd hj hk e hq hx)
theorem BS.same (h : BS w0 w base P o r m ms G f j i) (hi : i < (leK G ms j).length) (e : f ((leK G ms j).getD i refD) = (leK G ms j).getD i refD) : BS w0 w base P o r m ms G f j (i + 1) := by
  refine ⟨h.T, h.abs, h.row, fun k hk => ?_, h.nd, h.nP, h.hb, h.lt, h.bel⟩
  by_cases ek : k = j
  · subst ek
    have := h.lst k hk
    rw [upTo_here] at this ⊢
    rw [mapUp_same hi e]
    exact this
  · rw [upTo_other f (i + 1) i _ ek]
    exact h.lst k hk
theorem BS.next (h : BS w0 w base P o r m ms G f j (leK G ms j).length) : BS w0 w base P o r m ms G f (j + 1) 0 := by
  refine ⟨h.T, h.abs, h.row, fun k hk => ?_, h.nd, h.nP, h.hb, h.lt, h.bel⟩
  rw [← upTo_next (i := (leK G ms j).length) f _ (fun e => by rw [e])]
  exact h.lst k hk
/-- The rows whose refs are all turned. -/
def bRows (f : Rf → Rf) (ms : List MO) : List MO := ms.map fun x => { x with slots := x.slots.map f }
theorem bRows_cells (f : Rf → Rf) : ∀ ms : List MO, cellsO (bRows f ms) = cellsO ms
  | [] => rfl
  | x :: ms => by
    have := bRows_cells f ms
    unfold bRows at this
    simp [bRows, cellsO, this]
theorem bRows_blks (f : Rf → Rf) (ms : List MO) : blks (bRows f ms) = blks ms := by
  unfold blks bRows
  rw [List.flatMap_map]
theorem bRows_at {f : Rf → Rf} {ms : List MO} {x : MO} (h : x ∈ bRows f ms) : ∃ k, k < ms.length ∧ x.sv = (ms.getD k moD).sv ∧ x.slots = (ms.getD k moD).slots.map f := by
  unfold bRows at h
  rw [List.mem_map] at h
  obtain ⟨y, hy, rfl⟩ := h
  obtain ⟨k, hk, rfl⟩ := List.getElem_of_mem hy
  have e : ms.getD k moD = ms[k] := by rw [List.getD_eq_getElem?_getD, List.getElem?_eq_getElem hk]; rfl
  exact ⟨k, hk, by rw [e], by rw [e]⟩
theorem BS.done (h : BS w0 w base P o r m ms G f (ms.length + 2) 0) : Held w base P (bAll f G) ∧ Below base w0 w := by
  have l := h.lst
  have l0 := l 0 (by omega)
  have l1 := l 1 (by omega)
  rw [upTo_past f 0 _ (by omega)] at l0 l1
  have nd := h.nd
  have nd2 := nd
  unfold gblk at nd2
  rw [List.nodup_append, List.nodup_append] at nd2
  refine ⟨⟨o, r, m, bRows f ms, h.T, ⟨?_, ⟨?_, fun x hx => ?_, ?_⟩, l0, l1, ?_⟩, ?_, h.hb⟩, h.bel⟩
  · show _ = G.objs.map (bObj f)
    rw [← h.abs]
    unfold bRows
    rw [List.map_map, List.map_map]
    rfl
  · unfold OwnRow
    rw [bRows_cells, show (bRows f ms).length = ms.length by simp [bRows]]
    exact h.row
  · obtain ⟨k, hk, e1, e2⟩ := bRows_at hx
    have q := l (k + 2) (by omega)
    rw [upTo_past f 0 _ (by omega)] at q
    rw [e1, e2]
    exact q
  · rw [bRows_blks]
    exact nd2.1.1
  · unfold gblk
    rw [bRows_blks]
    exact h.nd
  · unfold gblk
    rw [bRows_blks]
    exact h.nP
/-- The row of objects, as it lies. -/
theorem BS.obj (h : BS w0 w base P o r m ms G f j i) : OrowAt w o ms := ownRow_at h.row
theorem BS.oform (h : BS w0 w base P o r m ms G f j i) : ∃ a c, o = .slice a ms.length c ∧ ms.length ≤ maxLen ∧ (0 < ms.length → ∃ g, a = some ⟨g, 0, none⟩) := by
  have O := h.row
  unfold OwnRow at O
  obtain ⟨_, ⟨e, hn⟩ | ⟨g, cap, cur, e, hg, hh, hle, hm, _⟩⟩ := O
  · exact ⟨none, 0, by rw [e, hn], by omega, fun h => by omega⟩
  · exact ⟨_, cap, e, by omega, fun _ => ⟨g, rfl⟩⟩
theorem BS.slotCell (h : BS w0 w base P o r m ms G f j i) {k : Nat} (hk : k < ms.length) {g n c : Nat} (ho : o = .slice (some ⟨g, 0, none⟩) n c) : w.cell? ⟨g, k * 5 + 4, none⟩ = some (ms.getD k moD).sv := by
  obtain ⟨ao, co, eo, _, _, _, hco⟩ := h.obj
  rw [ho] at eo
  injection eo with e1 e2 e3
  subst e1
  obtain ⟨b', off', e4, _, hcc⟩ := hco (by omega)
  injection e4 with e4
  injection e4 with e4 e5
  subst e4 e5
  have := (hcc k hk).2.2.2.2
  rwa [Nat.zero_add] at this
end
end Go.Proofs.Ythldaifnlnbpgaa.gr
