/-
  Chapter 10 as the specification has it: a heap of the call's own made straight. Chapter 10 as the specification has it: a heap of the call's own made straight. Chapter 10 as the specification has it: Straightened.
-/
import Derived.Test.YtacilbilnbmcbaaGreatDoorFollowS3
import Derived.Test.YtacilbilnbmcbaaGreatDoorM11
import Derived.Deep.RegionLaw
import Derived.Test.YtacilbilnbmcbaaGreatDoorM19
namespace Go.Proofs.YtacilbilnbmcbaaGreatDoor.hp
open Go.RowKit rows heads words walks region
set_option maxRecDepth 100000
set_option linter.unusedVariables false
set_option linter.unusedSimpArgs false

/-- No two of these lie in one block. -/
structure Dst (w : World) (P base gr go gm : Nat) (vs : Value) : Prop where
  ro : gr ≠ go
  rm : gr ≠ gm
  om : go ≠ gm
  pr : P ≠ gr
  po : P ≠ go
  pm : P ≠ gm
  sr : ∀ k ∈ blk vs, k ≠ gr ∧ k ≠ go ∧ k ≠ gm ∧ k ≠ P
  lt : gr < w.heap.size ∧ go < w.heap.size ∧ gm < w.heap.size ∧ P < w.heap.size
/-- A heap of the call's own while it is made straight, and the list of its objects. -/
structure SS (w W : World) (P base gr go gm cr co cm nr no nm : Nat) (vs vl : Value) (H : Hp) (os xs rs ms : List Int) : Prop where
  nine : Nine W P 26 (.int .i64 H.half) (.int .i64 H.old) (.slice (some ⟨gr, 0, none⟩) nr cr) (.int .i64 H.side) (.int .i64 H.top) (.slice (some ⟨go, 0, none⟩) no co) (.slice (some ⟨gm, 0, none⟩) nm cm) vs (.int .i64 H.seed)
  row : W.ownsRow base 2 1 (.slice (some ⟨gr, 0, none⟩) nr cr) nr (cellsOf xs)
  roots : W.ownsRow base 2 1 (.slice (some ⟨go, 0, none⟩) no co) no (cellsOf rs)
  mour : W.ownsRow base 2 1 (.slice (some ⟨gm, 0, none⟩) nm cm) nm (cellsOf ms)
  seen : rows.Own W base vs H.seen
  list : rows.Own W w.heap.size vl os
  ch : Ch [P, gr, go, gm] w W
  lr : xs.length = nr
  lo : rs.length = no
  lm : ms.length = nm
theorem SS.below {W W' : World} {w : World} {P base gr go gm cr co cm nr no nm : Nat} {vs vl : Value} {H : Hp} {os : List Int} {xs rs ms : List Int} (h : SS w W P base gr go gm cr co cm nr no nm vs vl H os xs rs ms) (hb : Below W.heap.size W W') : SS w W' P base gr go gm cr co cm nr no nm vs vl H os xs rs ms :=
  ⟨nine_below h.nine hb, row_ch (S := []) h.row (ch_below hb) (by simp), row_ch (S := []) h.roots (ch_below hb) (by simp), row_ch (S := []) h.mour (ch_below hb) (by simp), own_below h.seen hb, own_below h.list hb, h.ch.trans (ch_below hb), h.lr, h.lo, h.lm⟩
theorem blk_of (g n c : Nat) : blk (.slice (some ⟨g, 0, none⟩) n c) = [g] := rfl
theorem cells_set (xs : List Int) (i : Nat) (x : Int) : (cellsOf xs).set i (.int .i64 x) = cellsOf (xs.set i x) := by simp [cellsOf, List.map_set]
theorem SS.setRow {W : World} {w : World} {P base gr go gm cr co cm nr no nm : Nat} {vs vl : Value} {H : Hp} {os : List Int} {xs rs ms : List Int} (h : SS w W P base gr go gm cr co cm nr no nm vs vl H os xs rs ms) (d : Dst w P base gr go gm vs) (i : Nat) (x : Int) : SS w (W.setCell ⟨gr, i, none⟩ (.int .i64 x)) P base gr go gm cr co cm nr no nm vs vl H os (xs.set i x) rs ms :=
  ⟨nine_ch h.nine (one_ch _ gr _ _) (by simp; exact d.pr), by have := (World.ownsRow.stored h.row i (.int .i64 x)).1; rw [cells_set] at this; exact this, row_ch (S := [gr]) h.roots (one_ch _ _ _ _) (fun k hk => by rw [blk_of] at hk; simp at hk ⊢; have := d.ro; omega), row_ch (S := [gr]) h.mour (one_ch _ _ _ _) (fun k hk => by rw [blk_of] at hk; simp at hk ⊢; have := d.rm; omega), row_ch (S := [gr]) h.seen (one_ch _ _ _ _) (fun k hk => by simp; exact (d.sr k hk).1), row_ch (S := [gr]) h.list (one_ch _ _ _ _) (fun k hk => by have := (blk_lt h.list k hk).1; have := d.lt.1; simp; omega), h.ch.trans ((one_ch _ gr _ _).mono (by simp)), by simpa using h.lr, by simpa using h.lo, by simpa using h.lm⟩
theorem SS.setRoot {W : World} {w : World} {P base gr go gm cr co cm nr no nm : Nat} {vs vl : Value} {H : Hp} {os : List Int} {xs rs ms : List Int} (h : SS w W P base gr go gm cr co cm nr no nm vs vl H os xs rs ms) (d : Dst w P base gr go gm vs) (i : Nat) (x : Int) : SS w (W.setCell ⟨go, i, none⟩ (.int .i64 x)) P base gr go gm cr co cm nr no nm vs vl H os xs (rs.set i x) ms :=
  ⟨nine_ch h.nine (one_ch _ go _ _) (by simp; exact d.po), row_ch (S := [go]) h.row (one_ch _ _ _ _) (fun k hk => by rw [blk_of] at hk; simp at hk ⊢; have := d.ro; omega), by have := (World.ownsRow.stored h.roots i (.int .i64 x)).1; rw [cells_set] at this; exact this, row_ch (S := [go]) h.mour (one_ch _ _ _ _) (fun k hk => by rw [blk_of] at hk; simp at hk ⊢; have := d.om; omega), row_ch (S := [go]) h.seen (one_ch _ _ _ _) (fun k hk => by simp; exact (d.sr k hk).2.1), row_ch (S := [go]) h.list (one_ch _ _ _ _) (fun k hk => by have := (blk_lt h.list k hk).1; have := d.lt.2.1; simp; omega), h.ch.trans ((one_ch _ go _ _).mono (by simp)), by simpa using h.lr, by simpa using h.lo, by simpa using h.lm⟩
theorem SS.setMour {W : World} {w : World} {P base gr go gm cr co cm nr no nm : Nat} {vs vl : Value} {H : Hp} {os : List Int} {xs rs ms : List Int} (h : SS w W P base gr go gm cr co cm nr no nm vs vl H os xs rs ms) (d : Dst w P base gr go gm vs) (i : Nat) (x : Int) : SS w (W.setCell ⟨gm, i, none⟩ (.int .i64 x)) P base gr go gm cr co cm nr no nm vs vl H os xs rs (ms.set i x) :=
  ⟨nine_ch h.nine (one_ch _ gm _ _) (by simp; exact d.pm), row_ch (S := [gm]) h.row (one_ch _ _ _ _) (fun k hk => by rw [blk_of] at hk; simp at hk ⊢; have := d.rm; omega), row_ch (S := [gm]) h.roots (one_ch _ _ _ _) (fun k hk => by rw [blk_of] at hk; simp at hk ⊢; have := d.om; omega), by have := (World.ownsRow.stored h.mour i (.int .i64 x)).1; rw [cells_set] at this; exact this, row_ch (S := [gm]) h.seen (one_ch _ _ _ _) (fun k hk => by simp; exact (d.sr k hk).2.2.1), row_ch (S := [gm]) h.list (one_ch _ _ _ _) (fun k hk => by have := (blk_lt h.list k hk).1; have := d.lt.2.2.1; simp; omega), h.ch.trans ((one_ch _ gm _ _).mono (by simp)), by simpa using h.lr, by simpa using h.lo, by simpa using h.lm⟩
theorem SS.hp {W : World} {w : World} {P base gr go gm cr co cm nr no nm : Nat} {vs vl : Value} {H : Hp} {os : List Int} {xs rs ms : List Int} (h : SS w W P base gr go gm cr co cm nr no nm vs vl H os xs rs ms) : HpAt W (.slice (some ⟨gr, 0, none⟩) xs.length cr) (.slice (some ⟨go, 0, none⟩) rs.length co) (.slice (some ⟨gm, 0, none⟩) ms.length cm) vs { H with row := xs, roots := rs, mourned := ms } := by
  have h1 := h.row
  have h2 := h.roots
  have h3 := h.mour
  rw [← h.lr] at h1
  rw [← h.lo] at h2
  rw [← h.lm] at h3
  exact ⟨own_ints h1, own_ints h2, own_ints h3, own_ints h.seen⟩
theorem SS.rowCell {W : World} {w : World} {P base gr go gm cr co cm nr no nm : Nat} {vs vl : Value} {H : Hp} {os : List Int} {xs rs ms : List Int} (h : SS w W P base gr go gm cr co cm nr no nm vs vl H os xs rs ms) {q : Nat} (hq : q < xs.length) : W.cell? ⟨gr, q, none⟩ = some (.int .i64 (xs.getD q 0)) ∧ W.frozen? ⟨gr, q, none⟩ = false := by
  refine ⟨?_, World.ownsRow.frozenAt h.row q⟩
  rw [World.ownsRow.cellAt h.row q (by rw [← h.lr]; omega)]
  simp [cellsOf, hq, List.getD_eq_getElem?_getD]
theorem SS.rootCell {W : World} {w : World} {P base gr go gm cr co cm nr no nm : Nat} {vs vl : Value} {H : Hp} {os : List Int} {xs rs ms : List Int} (h : SS w W P base gr go gm cr co cm nr no nm vs vl H os xs rs ms) {q : Nat} (hq : q < rs.length) : W.cell? ⟨go, q, none⟩ = some (.int .i64 (rs.getD q 0)) ∧ W.frozen? ⟨go, q, none⟩ = false := by
  refine ⟨?_, World.ownsRow.frozenAt h.roots q⟩
  rw [World.ownsRow.cellAt h.roots q (by rw [← h.lo]; omega)]
  simp [cellsOf, hq, List.getD_eq_getElem?_getD]
theorem SS.mourCell {W : World} {w : World} {P base gr go gm cr co cm nr no nm : Nat} {vs vl : Value} {H : Hp} {os : List Int} {xs rs ms : List Int} (h : SS w W P base gr go gm cr co cm nr no nm vs vl H os xs rs ms) {q : Nat} (hq : q < ms.length) : W.cell? ⟨gm, q, none⟩ = some (.int .i64 (ms.getD q 0)) ∧ W.frozen? ⟨gm, q, none⟩ = false := by
  refine ⟨?_, World.ownsRow.frozenAt h.mour q⟩
  rw [World.ownsRow.cellAt h.mour q (by rw [← h.lm]; omega)]
  simp [cellsOf, hq, List.getD_eq_getElem?_getD]
end Go.Proofs.YtacilbilnbmcbaaGreatDoor.hp
namespace Go.Proofs.YtacilbilnbmcbaaGreatDoor.hp
open Go.RowKit rows heads words walks region
set_option maxRecDepth 100000
set_option linter.unusedVariables false
set_option linter.unusedSimpArgs false

def dS8 (k : Nat) : Nat := 38 + k
theorem dS8_inj : ∀ k, k < 29 → ∀ j, j < 29 → dS8 j = dS8 k → j = k := fun k _ j _ e => by unfold dS8 at e; omega
def DS8 (s : Nat) : Bool := decide (38 ≤ s) && decide (s ≤ 66)
def FS8 (P g n c lb lo ln lc i0 j0 k0 : Nat) (hv0 : Value) (y z : Int) (k : Nat) (t : Value) : Prop :=
  match k with
  | 0 => t = .pointer (some ⟨P, 0, none⟩)
  | 1 => t = .pointer (some ⟨P, 0, none⟩)
  | 2 => t = .pointer (some ⟨P, 2, none⟩)
  | 3 => t = .slice (some ⟨g, 0, none⟩) n c
  | 4 => t = .slice (some ⟨lb, lo, none⟩) ln lc
  | 5 => t = .int .i64 (i0 : Int)
  | 6 => t = .pointer (some ⟨lb, lo + i0, none⟩)
  | 7 => t = .int .i64 (j0 : Int)
  | 8 => t = .int .i64 ((j0 : Int) + 1)
  | 9 => t = .int .i64 (k0 : Int)
  | 10 => t = .int .i64 ((j0 : Int) + 1 + (k0 : Int))
  | 11 => t = .pointer (some ⟨P, 0, none⟩)
  | 12 => t = .pointer (some ⟨P, 0, none⟩)
  | 13 => t = hv0
  | 14 => t = .pointer (some ⟨P, 0, none⟩)
  | 15 => t = .pointer (some ⟨P, 0, none⟩)
  | 16 => t = .pointer (some ⟨P, 2, none⟩)
  | 17 => t = .slice (some ⟨g, 0, none⟩) n c
  | 18 => t = .slice (some ⟨lb, lo, none⟩) ln lc
  | 19 => t = .int .i64 (i0 : Int)
  | 20 => t = .pointer (some ⟨lb, lo + i0, none⟩)
  | 21 => t = .int .i64 (j0 : Int)
  | 22 => t = .int .i64 ((j0 : Int) + 1)
  | 23 => t = .int .i64 (k0 : Int)
  | 24 => t = .int .i64 ((j0 : Int) + 1 + (k0 : Int))
  | 25 => t = .pointer (some ⟨g, j0 + 1 + k0, none⟩)
  | 26 => t = .int .i64 y
  | 27 => t = .int .i64 z
  | 28 => t = .pointer (some ⟨g, j0 + 1 + k0, none⟩)
  | _ => False
def dS12 (k : Nat) : Nat := 71 + k
theorem dS12_inj : ∀ k, k < 17 → ∀ j, j < 17 → dS12 j = dS12 k → j = k := fun k _ j _ e => by unfold dS12 at e; omega
def DS12 (s : Nat) : Bool := decide (71 ≤ s) && decide (s ≤ 87)
def FS12 (P g n c k0 : Nat) (hv0 : Value) (y z : Int) (k : Nat) (t : Value) : Prop :=
  match k with
  | 0 => t = .pointer (some ⟨P, 0, none⟩)
  | 1 => t = .pointer (some ⟨P, 0, none⟩)
  | 2 => t = .pointer (some ⟨P, 5, none⟩)
  | 3 => t = .slice (some ⟨g, 0, none⟩) n c
  | 4 => t = .int .i64 (k0 : Int)
  | 5 => t = .pointer (some ⟨P, 0, none⟩)
  | 6 => t = .pointer (some ⟨P, 0, none⟩)
  | 7 => t = hv0
  | 8 => t = .pointer (some ⟨P, 0, none⟩)
  | 9 => t = .pointer (some ⟨P, 0, none⟩)
  | 10 => t = .pointer (some ⟨P, 5, none⟩)
  | 11 => t = .slice (some ⟨g, 0, none⟩) n c
  | 12 => t = .int .i64 (k0 : Int)
  | 13 => t = .pointer (some ⟨g, k0, none⟩)
  | 14 => t = .int .i64 y
  | 15 => t = .int .i64 z
  | 16 => t = .pointer (some ⟨g, k0, none⟩)
  | _ => False
def dS16 (k : Nat) : Nat := 97 + k
theorem dS16_inj : ∀ k, k < 17 → ∀ j, j < 17 → dS16 j = dS16 k → j = k := fun k _ j _ e => by unfold dS16 at e; omega
def DS16 (s : Nat) : Bool := decide (97 ≤ s) && decide (s ≤ 113)
def FS16 (P g n c k0 : Nat) (hv0 : Value) (y z : Int) (k : Nat) (t : Value) : Prop :=
  match k with
  | 0 => t = .pointer (some ⟨P, 0, none⟩)
  | 1 => t = .pointer (some ⟨P, 0, none⟩)
  | 2 => t = .pointer (some ⟨P, 6, none⟩)
  | 3 => t = .slice (some ⟨g, 0, none⟩) n c
  | 4 => t = .int .i64 (k0 : Int)
  | 5 => t = .pointer (some ⟨P, 0, none⟩)
  | 6 => t = .pointer (some ⟨P, 0, none⟩)
  | 7 => t = hv0
  | 8 => t = .pointer (some ⟨P, 0, none⟩)
  | 9 => t = .pointer (some ⟨P, 0, none⟩)
  | 10 => t = .pointer (some ⟨P, 6, none⟩)
  | 11 => t = .slice (some ⟨g, 0, none⟩) n c
  | 12 => t = .int .i64 (k0 : Int)
  | 13 => t = .pointer (some ⟨g, k0, none⟩)
  | 14 => t = .int .i64 y
  | 15 => t = .int .i64 z
  | 16 => t = .pointer (some ⟨g, k0, none⟩)
  | _ => False
theorem SS.newList {W : World} {w : World} {P base gr go gm cr co cm nr no nm : Nat} {vs vl vl' : Value} {H : Hp} {os os' xs rs ms : List Int} (h : SS w W P base gr go gm cr co cm nr no nm vs vl H os xs rs ms) (hl : rows.Own W w.heap.size vl' os') : SS w W P base gr go gm cr co cm nr no nm vs vl' H os' xs rs ms :=
  ⟨h.nine, h.row, h.roots, h.mour, h.seen, hl, h.ch, h.lr, h.lo, h.lm⟩
end Go.Proofs.YtacilbilnbmcbaaGreatDoor.hp
namespace Go.Proofs.YtacilbilnbmcbaaGreatDoor.hp
open Go.RowKit rows heads words walks
set_option maxRecDepth 100000
set_option linter.unusedVariables false
set_option linter.unusedSimpArgs false

/-- What Straightened answers. -/
def strOk (H : Hp) : Hp := if heapOk H = true then strF H ((placesR H).getD []) else hp0
theorem own0 (w : World) (b : Nat) : OwnH w b (.slice none 0 0) (.slice none 0 0) (.slice none 0 0) (.slice none 0 0) hp0 :=
  ⟨⟨World.ownsRow_nil _ _ _ _, World.ownsRow_nil _ _ _ _, World.ownsRow_nil _ _ _ _, World.ownsRow_nil _ _ _ _⟩, by simp [hblk, blk, Value.ownBlock]⟩
theorem strOk_size {H : Hp} (hs : hpSize H ≤ 1048576) : hpSize (strOk H) ≤ 1048576 := by
  unfold strOk
  split
  · rename_i h
    obtain ⟨ps, R⟩ := rt_of (ok_right h).1
    rw [R.some', Option.getD_some]
    have hA := apart_of R.some'
    have hD := dif_row hA (fun p hp => hp : ∀ p ∈ objL H ps, p ∈ objL H ps) _ (Nat.le_refl _)
    rw [List.take_length] at hD
    obtain ⟨hp', hup, hN, hnb⟩ := sim_places R.some' (fun p hp => hp : ∀ p ∈ objL H ps, p ∈ objL H ps) (H' := strH H ps) hD rfl rfl rfl rfl rfl (by simp [strH]) (by simp [strH])
    obtain ⟨_, _, r, u, _, hu, _, e⟩ := places_facts hp'
    have hl := (places_plc hp').2
    rw [e, List.length_append] at hl
    have hsn : (seenL (strH H ps)).length ≤ 500 := by
      unfold seenL
      rw [hu, Option.getD_some]
      exact Nat.le_trans (List.length_filter_le _ _) (by omega)
    have hrl := R.len
    have hdl := hD.len
    have N := (places_facts R.some').1
    have hr6 := N.roots
    have hm40 := N.mourned
    show (strRow H (objL H ps)).length + (H.roots.map (fol H)).length + (H.mourned.map (fol H)).length + (seenL (strH H ps)).length ≤ _
    rw [List.length_map, List.length_map]
    omega
  · exact Nat.zero_le _
/-- A heap of the call's own, put into a block of its own. -/
theorem ss_new {V0 : World} {b g1 g2 g3 k1 k2 k3 : Nat} {s : Value} {H : Hp} (h : OwnH V0 b (.slice (some ⟨g1, 0, none⟩) H.row.length k1) (.slice (some ⟨g2, 0, none⟩) H.roots.length k2) (.slice (some ⟨g3, 0, none⟩) H.mourned.length k3) s H) :
    Dst (V0.alloc (hpb H (.slice (some ⟨g1, 0, none⟩) H.row.length k1) (.slice (some ⟨g2, 0, none⟩) H.roots.length k2) (.slice (some ⟨g3, 0, none⟩) H.mourned.length k3) s)) V0.heap.size b g1 g2 g3 s ∧
    SS (V0.alloc (hpb H (.slice (some ⟨g1, 0, none⟩) H.row.length k1) (.slice (some ⟨g2, 0, none⟩) H.roots.length k2) (.slice (some ⟨g3, 0, none⟩) H.mourned.length k3) s)) (V0.alloc (hpb H (.slice (some ⟨g1, 0, none⟩) H.row.length k1) (.slice (some ⟨g2, 0, none⟩) H.roots.length k2) (.slice (some ⟨g3, 0, none⟩) H.mourned.length k3) s)) V0.heap.size b g1 g2 g3 k1 k2 k3 H.row.length H.roots.length H.mourned.length s (.slice none 0 0) H [] H.row H.roots H.mourned := by
  have hB : Below V0.heap.size V0 (V0.alloc (hpb H (.slice (some ⟨g1, 0, none⟩) H.row.length k1) (.slice (some ⟨g2, 0, none⟩) H.roots.length k2) (.slice (some ⟨g3, 0, none⟩) H.mourned.length k3) s)) := (Below.refl _ _).alloc (Nat.le_refl _) _
  have h' := ownH_below h hB
  have hn := h.2
  unfold hblk at hn
  rw [blk_of, blk_of, blk_of] at hn
  have l1 := (blk_lt h.1.1 g1 (by rw [blk_of]; simp)).2
  have l2 := (blk_lt h.1.2.1 g2 (by rw [blk_of]; simp)).2
  have l3 := (blk_lt h.1.2.2.1 g3 (by rw [blk_of]; simp)).2
  have l4 := blk_lt h.1.2.2.2
  simp at hn
  obtain ⟨⟨n1, n2, n3⟩, ⟨n4, n5⟩, n6, n7⟩ := hn
  refine ⟨⟨n1, n2, n4, by omega, by omega, by omega, fun k hk => ⟨fun e => n3 (e ▸ hk), fun e => n5 (e ▸ hk), fun e => n6 (e ▸ hk), fun e => by have := (l4 k hk).2; omega⟩, by simp; omega⟩, ⟨nine_new _ _ _ _ _ _, h'.1.1, h'.1.2.1, h'.1.2.2.1, h'.1.2.2.2, World.ownsRow_nil _ _ _ _, Ch.refl _ _, rfl, rfl, rfl⟩⟩
end Go.Proofs.YtacilbilnbmcbaaGreatDoor.hp
