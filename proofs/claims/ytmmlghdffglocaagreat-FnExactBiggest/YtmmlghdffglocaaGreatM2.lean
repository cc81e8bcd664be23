/-
  The laws' own helpers on lists of numbers: a copy, a comparison, marks written and found again. Who owns which block: what is owned stays where another's block is written. What a law on an answer that is a list needs. Lists of entries (a number and a text) in memory: what may be read of one (EntsAt); a row of the call's own (OwnE). How much a list of entries holds, as the laws reckon it.
-/
import Derived.Test.YtmmlghdffglocaaGreatM1
namespace Go.Proofs.YtmmlghdffglocaaGreat.rows
open Go.RowKit

theorem set_take {xs : List Int} {k : Nat} (h : k < xs.length) : (xs.take k ++ List.replicate (xs.length - k) 0).set k (xs.getD k 0) = xs.take (k + 1) ++ List.replicate (xs.length - (k + 1)) 0 := by
  apply List.ext_getElem?
  intro i
  simp only [List.getElem?_set, List.getElem?_append, List.length_take, List.getElem?_take, List.getElem?_replicate, List.length_append, List.length_replicate]
  rcases Nat.lt_trichotomy i k with hi | hi | hi
  · grind
  · grind
  · grind

set_option maxHeartbeats 1000000 in
theorem toInt64S_any {w : World} {v : Value} {xs : List Int} (h : IntsAt w v xs) (hl : xs.length ≤ 1048576) :
    Calls Tryz.prog 21 #[v] w fun e w' => e = .returned (.slice (some ⟨w.heap.size, 0, none⟩) xs.length xs.length) ∧ Full w' w.heap.size xs ∧ Below w.heap.size w w' := by
  obtain ⟨a, cap, rfl, hlc, hcm, _, hc⟩ := h
  obtain ⟨i0, hi, hz0, hz1, hz2⟩ := info_parts info
  have HC : Hid (0 < xs.length → ∃ b off, a = some ⟨b, off, none⟩ ∧ b < w.heap.size ∧ ∀ i, i < xs.length → w.cell? ⟨b, off + i, none⟩ = some (.int .i64 (xs.getD i 0))) := hc
  clear hc
  go_enter Tryz.func21, Tryz.ntmps21
  go_wp2_with (at_make; refine wpList_make_full _ rfl _ _ 22 rfl w.heap.size 2 i0 (.int .i64 0) 1 Tryz.underlying22 hi hz0 hz1 _ _ _ _ xs.length rfl rfl rfl rfl (by rw [hz2]; omega) (by unfold maxLen; omega) (Nat.le_refl _) ?_; intro w1 hown hgrow)
  have F : Full w1 w.heap.size (xs.take 0 ++ List.replicate (xs.length - 0) 0) := own_full hown (by simp [cellsOf, toList_madeCells_one, Value.cells])
  have B : Below w.heap.size w w1 := (Below.refl _ _).grown hgrow (Nat.le_refl _) (fun k e => by cases e)
  clear hown hgrow hi hz0 hz1 hz2
  go_loopw [4] (fun i wr => ∃ k : Nat, k ≤ xs.length ∧ i = .int .i64 k ∧ Full wr w.heap.size (xs.take k ++ List.replicate (xs.length - k) 0) ∧ Below w.heap.size w wr) (fun i _ => xs.length - (intOf i).toNat)
  case atStart => exact ⟨0, Nat.zero_le _, rfl, F, B⟩
  case round =>
    obtain ⟨k, hk, rfl, Fr, Br⟩ := hrel
    by_cases hlt : k < xs.length
    · obtain ⟨b, off, rfl, hb, hc⟩ := HC.out (by omega)
      have c0 : wr.cell? ⟨b, off + k, none⟩ = some (.int .i64 (xs.getD k 0)) := (Br.cell (p := ⟨b, off + k, none⟩) hb).trans (hc k hlt)
      have c1 : wr.cell? ⟨w.heap.size, k, none⟩ = some (.int .i64 ((xs.take k ++ List.replicate (xs.length - k) 0).getD k 0)) := full_cell Fr (by simp; omega)
      have c2 := full_frozen Fr k
      have F2 := full_set Fr k (xs.getD k 0)
      rw [set_take hlt] at F2
      have B2 : Below w.heap.size w (wr.setCell ⟨w.heap.size, k, none⟩ (.int .i64 (xs.getD k 0))) := Br.setCell (Nat.le_refl _) _
      have HF : Hid _ := F2
      have HB : Hid _ := B2
      clear F2 B2 Fr Br hc F B
      generalize xs.getD k 0 = x at *
      generalize (xs.take k ++ List.replicate (xs.length - k) 0).getD k 0 = y at *
      go_wp2
      exact ⟨⟨k + 1, by omega, by go_num, HF, HB⟩, by simp [intOf]; omega⟩
    · have e : k = xs.length := by omega
      subst e
      have F0 : Full wr w.heap.size xs := by simpa using Fr
      have HF : Hid (Full wr w.heap.size xs) := F0
      have HB : Hid (Below w.heap.size w wr) := Br
      clear Fr Br F B F0
      go_wp2
      go_ret
      exact ⟨rfl, HF, HB⟩

set_option maxHeartbeats 1000000 in
theorem eqInt64S_any {w : World} {v1 v2 : Value} {xs ys : List Int} (h1 : IntsAt w v1 xs) (h2 : IntsAt w v2 ys) (hl : xs.length ≤ 1048576) :
    Calls Tryz.prog 30 #[v1, v2] w fun e w' => e = .returned (.bool (decide (xs = ys))) ∧ ∃ n, w' = w.drewN n := by
  obtain ⟨a, cap, rfl, hlc, hcm, _, hc⟩ := h1
  obtain ⟨a', cap', rfl, hlc', hcm', _, hc'⟩ := h2
  by_cases hn : xs.length = ys.length
  · have HC : Hid (0 < xs.length → ∃ b off, a = some ⟨b, off, none⟩ ∧ b < w.heap.size ∧ ∀ i, i < xs.length → w.cell? ⟨b, off + i, none⟩ = some (.int .i64 (xs.getD i 0))) := hc
    have HC' : Hid (0 < ys.length → ∃ b off, a' = some ⟨b, off, none⟩ ∧ b < w.heap.size ∧ ∀ i, i < ys.length → w.cell? ⟨b, off + i, none⟩ = some (.int .i64 (ys.getD i 0))) := hc'
    clear hc hc'
    have hni : (xs.length : Int) = (ys.length : Int) := by omega
    go_enter Tryz.func30, Tryz.ntmps30
    go_wp2_with fail
    go_loopw [5] (fun i wr => ∃ k n : Nat, k ≤ xs.length ∧ i = .int .i64 k ∧ xs.take k = ys.take k ∧ wr = w.drewN n) (fun i _ => xs.length - (intOf i).toNat)
    case atStart => exact ⟨0, 0, Nat.zero_le _, rfl, by simp, rfl⟩
    case round =>
      obtain ⟨k, n, hk, rfl, ht, rfl⟩ := hrel
      by_cases hlt : k < xs.length
      · obtain ⟨b, off, rfl, hb, hc⟩ := HC.out (by omega)
        obtain ⟨b', off', rfl, hb', hc'⟩ := HC'.out (by omega)
        have c0 := hc k hlt
        have c1 := hc' k (by omega)
        have HT : Hid (xs.getD k 0 = ys.getD k 0 → xs.take (k + 1) = ys.take (k + 1)) := fun e => take_succ_eq ht hlt (by omega) e
        have HN : Hid (¬ xs.getD k 0 = ys.getD k 0 → decide (xs = ys) = false) := fun e => by simp only [decide_eq_false_iff_not]; intro e'; subst e'; exact e rfl
        clear hc hc' ht HC HC'
        have hlt' : k < ys.length := by omega
        generalize xs.getD k 0 = x at *
        generalize ys.getD k 0 = y at *
        by_cases hxy : x = y
        · go_wp2
          go_quiet (fail)
          go_wp2
          exact ⟨⟨k + 1, n + nq, by omega, by go_num, HT hxy, rfl⟩, by simp [intOf]; omega⟩
        · go_wp2
          go_quiet (fail)
          go_wp2
          go_ret
          exact ⟨by rw [HN hxy]; rfl, n + nq, by rw [World.drewN_drewN]⟩
      · have e : xs = ys := by
          have e1 : xs.take k = xs := List.take_of_length_le (by omega)
          have e2 : ys.take k = ys := List.take_of_length_le (by omega)
          rw [← e1, ht, e2]
        have HE : Hid (decide (xs = ys) = true) := by show _ = true; simpa using e
        clear ht e HC HC'
        go_wp2
        go_ret
        exact ⟨by rw [HE.out]; rfl, _, rfl⟩
  · have hni : ¬ (xs.length : Int) = (ys.length : Int) := by omega
    clear hc hc'
    go_enter Tryz.func30, Tryz.ntmps30
    go_wp2
    go_ret
    exact ⟨by rw [decide_eq_false (fun e => hn (by rw [e]))]; rfl, 0, rfl⟩

/-- The numbers from k on. -/
def marks (k : Int) (n : Nat) : List Int := (List.range n).map (fun i : Nat => k + (i : Int))
theorem marks_length (k : Int) (n : Nat) : (marks k n).length = n := by simp [marks]
theorem marks_getD (k : Int) {n i : Nat} (h : i < n) : (marks k n).getD i 0 = k + i := by simp [marks, List.getD_eq_getElem?_getD, h]
theorem marks_set {xs : List Int} {k : Nat} (k0 : Int) (h : k < xs.length) : (marks k0 k ++ xs.drop k).set k (k0 + (k : Int)) = marks k0 (k + 1) ++ xs.drop (k + 1) := by
  apply List.ext_getElem?
  intro i
  simp only [marks, List.getElem?_set, List.getElem?_append, List.length_map, List.length_range, List.getElem?_map, List.getElem?_drop, List.length_append, List.length_drop]
  grind

set_option maxHeartbeats 1000000 in
theorem markInt64S_any {w : World} {base : Nat} {v : Value} {xs : List Int} (h : Own w base v xs) (hl : xs.length ≤ 1048576) (k0 : Int) (hk0 : 0 ≤ k0) (hk1 : k0 ≤ 1048577) :
    Calls Tryz.prog 31 #[v, .int .i64 k0] w fun e w' => e = .returned (.int .i64 (k0 + xs.length)) ∧ Own w' base v (marks k0 xs.length) ∧ w.grownBy w' v.ownBlock := by
  have h' := h
  obtain ⟨_, ⟨rfl, hn⟩ | ⟨g, cap, cur, rfl, hg, hh, hle, hm, hs, ht⟩⟩ := h
  · have e : xs = [] := by simpa using hn
    subst e
    have HO : Hid (Own w base (.slice none 0 0) (marks k0 0)) := h'
    clear h' hn
    go_enter Tryz.func31, Tryz.ntmps31
    go_wp2
    refine wp_loop_rounds 1 ?_
    rw [rounds_succ]
    go_wp2
    go_ret
    exact ⟨by simp, HO, World.grownBy.refl _ _⟩
  · have HO : Hid (w.ownsRow base 2 1 (.slice (some ⟨g, 0, none⟩) xs.length cap) xs.length (cellsOf (marks k0 0 ++ xs.drop 0))) := h'
    clear h' hg hh hs ht cur
    go_enter Tryz.func31, Tryz.ntmps31
    go_wp2_with fail
    go_loopw [1, 5] (fun q i wr => ∃ k : Nat, k ≤ xs.length ∧ i = .int .i64 k ∧ q = .int .i64 (k0 + (k : Int)) ∧ wr.ownsRow base 2 1 (.slice (some ⟨g, 0, none⟩) xs.length cap) xs.length (cellsOf (marks k0 k ++ xs.drop k)) ∧ w.grownBy wr (some g)) (fun _ i _ => xs.length - (intOf i).toNat)
    case atStart => exact ⟨0, Nat.zero_le _, rfl, by simp, HO, World.grownBy.refl _ _⟩
    case round =>
      obtain ⟨k, hk, rfl, rfl, Or, Gr⟩ := hrel
      by_cases hlt : k < xs.length
      · have c0 := World.ownsRow.cellAt Or k (by omega)
        have c1 := World.ownsRow.frozenAt Or k
        have S := World.ownsRow.stored Or k (.int .i64 (k0 + (k : Int)))
        have e1 : (cellsOf (marks k0 k ++ xs.drop k)).set k (.int .i64 (k0 + (k : Int))) = cellsOf (marks k0 (k + 1) ++ xs.drop (k + 1)) := by
          rw [← marks_set k0 hlt]; simp [cellsOf, List.map_set]
        rw [e1] at S
        have HS : Hid _ := S.1
        have HG : Hid (w.grownBy (wr.setCell ⟨g, k, none⟩ (.int .i64 (k0 + (k : Int)))) (some g)) := ⟨S.2.os.trans Gr.os, S.2.tape.trans Gr.tape, S.2.output.trans Gr.output, Nat.le_trans Gr.size S.2.size, fun i hi hne => (S.2.block i (Nat.lt_of_lt_of_le hi Gr.size) hne).trans (Gr.block i hi hne)⟩
        have c2 : ∃ y, (cellsOf (marks k0 k ++ xs.drop k))[k]? = some y := ⟨_, List.getElem?_eq_getElem (by simp [marks]; omega)⟩
        obtain ⟨y, hy⟩ := c2
        rw [hy] at c0
        clear Or Gr S e1 HO hy
        go_wp2
        exact ⟨⟨k + 1, by omega, by go_num, by go_num, HS, HG⟩, by simp [intOf]; omega⟩
      · have e : k = xs.length := by omega
        subst e
        have HS : Hid (Own wr base (.slice (some ⟨g, 0, none⟩) xs.length cap) (marks k0 xs.length)) := by
          show World.ownsRow wr base _ 1 _ (marks k0 xs.length).length _
          rw [marks_length]
          simpa using Or
        have HG : Hid _ := Gr
        clear Or Gr HO
        go_wp2
        go_ret
        exact ⟨rfl, HS, HG⟩

set_option maxHeartbeats 1000000 in
theorem heldInt64S_any {w : World} {v : Value} {n : Nat} (k0 : Int) (h : IntsAt w v (marks k0 n)) (hl : n ≤ 1048576) (hk0 : 0 ≤ k0) (hk1 : k0 ≤ 1048577) :
    Calls Tryz.prog 32 #[v, .int .i64 k0] w fun e w' => e = .returned (.int .i64 (k0 + n)) ∧ w' = w := by
  obtain ⟨a, cap, rfl, hlc, hcm, _, hc⟩ := h
  rw [marks_length] at *
  have HC : Hid _ := hc
  clear hc
  go_enter Tryz.func32, Tryz.ntmps32
  go_wp2_with fail
  go_loop [1, 5] (fun q i => ∃ k : Nat, k ≤ n ∧ i = .int .i64 k ∧ q = .int .i64 (k0 + (k : Int))) (fun _ i => n - (intOf i).toNat)
  case atStart => exact ⟨0, Nat.zero_le _, rfl, by simp⟩
  case round =>
    obtain ⟨k, hk, rfl, rfl⟩ := hrel
    by_cases hlt : k < n
    · obtain ⟨b, off, rfl, hb, hc⟩ := HC.out (by omega)
      have c0 := hc k hlt
      rw [marks_getD k0 hlt] at c0
      clear hc HC
      go_wp2
      go_round
      case rel => exact ⟨k + 1, by omega, by go_num, by go_num⟩
      case measure => simp [intOf]; omega
    · have e : k = n := by omega
      subst e
      go_wp2
      go_ret
      exact ⟨rfl, rfl⟩
end Go.Proofs.YtmmlghdffglocaaGreat.rows
namespace Go.Proofs.YtmmlghdffglocaaGreat.rows
open Go.RowKit
set_option maxRecDepth 100000

/-- The blocks of v lie from lo on and below hi. -/
def In (lo hi : Nat) (v : Value) : Prop := ∀ k, v.ownBlock = some k → lo ≤ k ∧ k < hi

theorem own_in {w : World} {base : Nat} {v : Value} {xs : List Int} (h : Own w base v xs) : In base w.heap.size v := fun k e => World.ownsRow.lt h k e
theorem own_grown {w w' : World} {base lo hi g : Nat} {v : Value} {xs : List Int} (h : Own w base v xs) (hi' : In lo hi v) (hg : w.grownBy w' (some g)) (hne : g < lo ∨ hi ≤ g) : Own w' base v xs := by
  refine World.ownsRow.kept h hg ?_
  cases e : v.ownBlock with
  | none => exact .inl rfl
  | some k =>
    have := hi' k e
    refine .inr (fun e' => ?_)
    injection e' with e'
    omega
theorem own_drewN {w : World} {base n : Nat} {v : Value} {xs : List Int} (h : Own w base v xs) : Own (w.drewN n) base v xs := h
theorem below_drewN {B n : Nat} {w w' : World} (h : Below B w w') : Below B w (w'.drewN n) := ⟨h.os, h.tape, h.output, h.size, h.block⟩
theorem intsAt_drewN {w : World} {n : Nat} {v : Value} {xs : List Int} (h : IntsAt w v xs) : IntsAt (w.drewN n) v xs := h
theorem below_own {B lo hi : Nat} {w w1 w2 : World} {v : Value} (h : Below B w w1) (hg : w1.grownBy w2 v.ownBlock) (hi' : In lo hi v) (hB : B ≤ lo) (hs : B ≤ w1.heap.size) : Below B w w2 :=
  h.grown hg hs (fun k e => Nat.le_trans hB (hi' k e).1)
theorem own_grown' {w w' : World} {base lo hi lo' hi' : Nat} {v u : Value} {xs : List Int} (h : Own w base v xs) (i1 : In lo hi v) (hg : w.grownBy w' u.ownBlock) (i2 : In lo' hi' u) (hne : hi' ≤ lo ∨ hi ≤ lo') : Own w' base v xs := by
  refine World.ownsRow.kept h hg ?_
  cases e : v.ownBlock with
  | none => exact .inl rfl
  | some k =>
    have h1 := i1 k e
    refine .inr (fun e' => ?_)
    have h2 := i2 k e'.symm
    omega

theorem full_in {b : Nat} {n cap : Nat} : In b (b + 1) (.slice (some ⟨b, 0, none⟩) n cap) := fun k e => by
  injection e with e
  subst e
  exact ⟨Nat.le_refl _, Nat.lt_succ_self _⟩

end Go.Proofs.YtmmlghdffglocaaGreat.rows
namespace Go.Proofs.YtmmlghdffglocaaGreat.rows
open Go.RowKit

theorem eqInt64S_same {w : World} {v1 v2 : Value} {xs : List Int} (h1 : IntsAt w v1 xs) (h2 : IntsAt w v2 xs) (hl : xs.length ≤ 1048576) :
    Calls Tryz.prog 30 #[v1, v2] w fun e w' => e = .returned (.bool true) ∧ ∃ n, w' = w.drewN n :=
  (eqInt64S_any h1 h2 hl).mono fun _ _ ⟨he, hw⟩ => ⟨by rw [he]; simp, hw⟩

/-- A row of numbers that came in, as the laws open it. -/
theorem row_ints {k : IntKind} {w : World} {a : Option Addr} {len cap : Nat} {zs : List Int} (hk : k = .i64)
    (h : (a = none ∧ len = 0 ∧ cap = 0 ∧ zs = []) ∨ ∃ x, a = some x ∧ len ≤ cap ∧ cap ≤ maxLen ∧ zs.length = cap ∧ (∀ i, i < zs.length → w.cell? (x.add i) = some (.int k (zs.getD i 0))) ∧ ∀ n ∈ zs, (Lit.int k n).wf = true) :
    ∃ xs, xs.length = len ∧ IntsAt w (.slice a len cap) xs := by
  subst hk
  rcases h with ⟨rfl, rfl, rfl, rfl⟩ | ⟨x, rfl, hl, hm, hz, hc, _⟩
  · exact ⟨[], rfl, none, 0, rfl, Nat.le_refl _, by decide, fun _ => rfl, fun hp => absurd hp (by simp)⟩
  · have e : (zs.take len).length = len := by simp; omega
    refine ⟨zs.take len, e, some x, cap, by rw [e], by omega, hm, fun h => (by cases h), fun hp => ?_⟩
    obtain ⟨b, off, rfl, hc'⟩ := ints_at hc (by omega)
    refine ⟨b, off, rfl, World.block_lt_of_cell? w _ (hc' 0 (by omega)), fun i hi => ?_⟩
    rw [hc' i (by omega)]
    simp only [List.getD_eq_getElem?_getD]
    rw [List.getElem?_take, if_pos (by omega)]
end Go.Proofs.YtmmlghdffglocaaGreat.rows
namespace Go.Proofs.YtmmlghdffglocaaGreat.ents
open Go.RowKit rows

theorem bel_drewN {B n : Nat} {w w' : World} (h : Below B w w') : Below B w (w'.drewN n) := ⟨h.os, h.tape, h.output, h.size, h.block⟩

/-- An entry: its Index, its Name. -/
abbrev Ent := Int × ByteArray
abbrev entD : Ent := (0, ByteArray.empty)
/-- The entries as cells. -/
def cellsE : List Ent → List Value
  | [] => []
  | e :: es => .int .i64 e.1 :: .string e.2 :: cellsE es
theorem cellsE_length : ∀ es : List Ent, (cellsE es).length = es.length * 2
  | [] => rfl
  | _ :: es => by simp [cellsE, cellsE_length es]; omega
theorem cellsE_append : ∀ es fs : List Ent, cellsE (es ++ fs) = cellsE es ++ cellsE fs
  | [], _ => rfl
  | _ :: es, fs => by simp [cellsE, cellsE_append es fs]
theorem cellsE_at : ∀ (es : List Ent) (i : Nat), i < es.length → (cellsE es)[i * 2]? = some (.int .i64 (es.getD i entD).1) ∧ (cellsE es)[i * 2 + 1]? = some (.string (es.getD i entD).2)
  | [], _, h => by simp at h
  | e :: es, 0, _ => by simp [cellsE]
  | e :: es, i + 1, h => by
    have := cellsE_at es i (by simpa using h)
    rw [show (i + 1) * 2 = i * 2 + 1 + 1 by omega]
    simpa [cellsE] using this
theorem cellsE_one : ∀ es : List Ent, ∀ v ∈ cellsE es, v.oneCell' = true
  | [], v, h => by simp [cellsE] at h
  | e :: es, v, h => by
    simp only [cellsE, List.mem_cons] at h
    rcases h with rfl | rfl | h
    · rfl
    · rfl
    · exact cellsE_one es v h

/-- The value v is a slice whose entries are es. -/
def EntsAt (w : World) (v : Value) (es : List Ent) : Prop :=
  ∃ a cap, v = .slice a es.length cap ∧ es.length ≤ cap ∧ cap ≤ maxLen ∧ (a = none → cap = 0) ∧
    (0 < es.length → ∃ b off, a = some ⟨b, off, none⟩ ∧ b < w.heap.size ∧ ∀ i, i < es.length → w.cell? ⟨b, off + i * 2, none⟩ = some (.int .i64 (es.getD i entD).1) ∧ w.cell? ⟨b, off + i * 2 + 1, none⟩ = some (.string (es.getD i entD).2))

theorem entsAt_below {w w' : World} {v : Value} {es : List Ent} (h : EntsAt w v es) (hb : Below w.heap.size w w') : EntsAt w' v es := by
  obtain ⟨a, cap, rfl, h1, h2, h4, h3⟩ := h
  refine ⟨a, cap, rfl, h1, h2, h4, fun hp => ?_⟩
  obtain ⟨b, off, rfl, hlt, hc⟩ := h3 hp
  exact ⟨b, off, rfl, Nat.lt_of_lt_of_le hlt hb.size, fun i hi => ⟨(hb.cell (p := ⟨b, off + i * 2, none⟩) hlt).trans (hc i hi).1, (hb.cell (p := ⟨b, off + i * 2 + 1, none⟩) hlt).trans (hc i hi).2⟩⟩
theorem entsAt_drewN {w : World} {n : Nat} {v : Value} {es : List Ent} (h : EntsAt w v es) : EntsAt (w.drewN n) v es := h

/-- An entry as a value. -/
abbrev ev (e : Ent) : Value := .agg #[.int .i64 e.1, .string e.2]
end Go.Proofs.YtmmlghdffglocaaGreat.ents
namespace Go.Proofs.YtmmlghdffglocaaGreat.ents
open Go.RowKit rows

/-- The bytes of all Names. -/
def namesLen : List Ent → Nat
  | [] => 0
  | e :: es => e.2.size + namesLen es
theorem namesLen_take_succ : ∀ {es : List Ent} {k : Nat}, k < es.length → namesLen (es.take (k + 1)) = namesLen (es.take k) + (es.getD k entD).2.size
  | [], _, h => by simp at h
  | e :: es, 0, _ => by simp [namesLen]
  | e :: es, k + 1, h => by
    have := namesLen_take_succ (es := es) (k := k) (by simpa using h)
    simp [namesLen] at this ⊢
    omega
theorem namesLen_take_le : ∀ (es : List Ent) (k : Nat), namesLen (es.take k) ≤ namesLen es
  | [], k => by simp [namesLen]
  | e :: es, 0 => by simp [namesLen]
  | e :: es, k + 1 => by
    have := namesLen_take_le es k
    simp [namesLen]
    omega
theorem size_le_names : ∀ {es : List Ent} {k : Nat}, k < es.length → (es.getD k entD).2.size ≤ namesLen es
  | [], _, h => by simp at h
  | e :: es, 0, _ => by simp [namesLen]
  | e :: es, k + 1, h => by
    have := size_le_names (es := es) (k := k) (by simpa using h)
    simp [namesLen] at this ⊢
    omega
/-- All Names are such as a machine bears. -/
def Borne (es : List Ent) : Prop := ∀ k, k < es.length → I64 (es.getD k entD).1 ∧ (es.getD k entD).2.size ≤ 9223372036854775807
/-- What is left when all is taken off; -1: it is too much. -/
def szE (es : List Ent) (left : Nat) : Int := if es.length + namesLen es ≤ left then (left : Int) - (es.length + namesLen es : Nat) else -1

end Go.Proofs.YtmmlghdffglocaaGreat.ents
