/-
  The laws' own helpers on lists of numbers: a copy, a comparison, marks written and found again. Heaps of a call's own, and what may change beside them. Who owns which block: what is owned stays where another's block is written. What a law on an answer that is a list needs. What a list of numbers that came in holds: numbers of an int64. A heap that came in, opened. A drawn region whose last operation waits for all others: by one fact a slot, each of which stays where the world only grows. A drawn region whose operations may be guarded, by one fact a slot, under a relation between worlds of one's own: each operation that comes up is wanted and keeps its fact, or is not wanted and its slot is empty. Chapter 9 as the specification has it: the numbers of a heap: the region that asks them, by facts. Chapter 4 as the specification has it: an object written into a row. Chapter 4 as the specification has it: PutObject. Chapter 9 as the specification has it: a heap whose numbers are not as they must be. Chapter 8 as lists: a free chunk written, what is freed, the places of free chunks.
-/
import Derived.Test.YtmhbdmmpmagbkaaGreatInts
import Derived.Test.YtmhbdmmpmagbkaaGreatHeapM
import Derived.Test.YtmhbdmmpmagbkaaGreatWalkD
import Derived.WalkKit
import Derived.ProofKit
import Derived.OpenShut
import Derived.Test.YtmhbdmmpmagbkaaGreatRegionHas
import Derived.Below
import Derived.Tactics
import Derived.Test.YtmhbdmmpmagbkaaGreatHeapS2
import Derived.Test.YtmhbdmmpmagbkaaGreatClassS
import Derived.Test.YtmhbdmmpmagbkaaGreatWalkS2
import Derived.Test.YtmhbdmmpmagbkaaGreatHeadMem
import Derived.Test.YtmhbdmmpmagbkaaGreatCopied
import Derived.Deep.Cut
import Derived.Deep.CutRange
namespace Go.Proofs.YtmhbdmmpmagbkaaGreat.rows
open Go.RowKit

theorem set_take {xs : List Int} {k : Nat} (h : k < xs.length) : (xs.take k ++ List.replicate (xs.length - k) 0).set k (xs.getD k 0) = xs.take (k + 1) ++ List.replicate (xs.length - (k + 1)) 0 := by
  apply List.ext_getElem?
  intro i
  simp only [List.getElem?_set, List.getElem?_append, List.length_take, List.getElem?_take, List.getElem?_replicate, List.length_append, List.length_replicate]
  rcases Nat.lt_trichotomy i k with hi | hi | hi
  · grind
  · grind
  · grind

set_option maxHeartbeats 1000000 in
theorem toInt64S_any {w : World} {v : Value} {xs : List Int} (h : IntsAt w v xs) (hl : xs.length ≤ 1048576) :
    Calls Tryz.prog 36 #[v] w fun e w' => e = .returned (.slice (some ⟨w.heap.size, 0, none⟩) xs.length xs.length) ∧ Full w' w.heap.size xs ∧ Below w.heap.size w w' := by
  obtain ⟨a, cap, rfl, hlc, hcm, _, hc⟩ := h
  obtain ⟨i0, hi, hz0, hz1, hz2⟩ := info_parts info
  have HC : Hid (0 < xs.length → ∃ b off, a = some ⟨b, off, none⟩ ∧ b < w.heap.size ∧ ∀ i, i < xs.length → w.cell? ⟨b, off + i, none⟩ = some (.int .i64 (xs.getD i 0))) := hc
  clear hc
  go_enter Tryz.func36, Tryz.ntmps36
  go_wp2_with (at_make; refine wpList_make_full _ rfl _ _ 22 rfl w.heap.size 2 i0 (.int .i64 0) 1 Tryz.underlying22 hi hz0 hz1 _ _ _ _ xs.length rfl rfl rfl rfl (by rw [hz2]; omega) (by unfold maxLen; omega) (Nat.le_refl _) ?_; intro w1 hown hgrow)
  have F : Full w1 w.heap.size (xs.take 0 ++ List.replicate (xs.length - 0) 0) := own_full hown (by simp [cellsOf, toList_madeCells_one, Value.cells])
  have B : Below w.heap.size w w1 := (Below.refl _ _).grown hgrow (Nat.le_refl _) (fun k e => by cases e)
  clear hown hgrow hi hz0 hz1 hz2
  go_loopw [4] (fun i wr => ∃ k : Nat, k ≤ xs.length ∧ i = .int .i64 k ∧ Full wr w.heap.size (xs.take k ++ List.replicate (xs.length - k) 0) ∧ Below w.heap.size w wr) (fun i _ => xs.length - (intOf i).toNat)
  case atStart => exact ⟨0, Nat.zero_le _, rfl, F, B⟩
  case round =>
    obtain ⟨k, hk, rfl, Fr, Br⟩ := hrel
    by_cases hlt : k < xs.length
    · obtain ⟨b, off, rfl, hb, hc⟩ := HC.out (by omega)
      have c0 : wr.cell? ⟨b, off + k, none⟩ = some (.int .i64 (xs.getD k 0)) := (Br.cell (p := ⟨b, off + k, none⟩) hb).trans (hc k hlt)
      have c1 : wr.cell? ⟨w.heap.size, k, none⟩ = some (.int .i64 ((xs.take k ++ List.replicate (xs.length - k) 0).getD k 0)) := full_cell Fr (by simp; omega)
      have c2 := full_frozen Fr k
      have F2 := full_set Fr k (xs.getD k 0)
      rw [set_take hlt] at F2
      have B2 : Below w.heap.size w (wr.setCell ⟨w.heap.size, k, none⟩ (.int .i64 (xs.getD k 0))) := Br.setCell (Nat.le_refl _) _
      have HF : Hid _ := F2
      have HB : Hid _ := B2
      clear F2 B2 Fr Br hc F B
      generalize xs.getD k 0 = x at *
      generalize (xs.take k ++ List.replicate (xs.length - k) 0).getD k 0 = y at *
      go_wp2
      exact ⟨⟨k + 1, by omega, by go_num, HF, HB⟩, by simp [intOf]; omega⟩
    · have e : k = xs.length := by omega
      subst e
      have F0 : Full wr w.heap.size xs := by simpa using Fr
      have HF : Hid (Full wr w.heap.size xs) := F0
      have HB : Hid (Below w.heap.size w wr) := Br
      clear Fr Br F B F0
      go_wp2
      go_ret
      exact ⟨rfl, HF, HB⟩

set_option maxHeartbeats 1000000 in
theorem eqInt64S_any {w : World} {v1 v2 : Value} {xs ys : List Int} (h1 : IntsAt w v1 xs) (h2 : IntsAt w v2 ys) (hl : xs.length ≤ 1048576) :
    Calls Tryz.prog 25 #[v1, v2] w fun e w' => e = .returned (.bool (decide (xs = ys))) ∧ ∃ n, w' = w.drewN n := by
  obtain ⟨a, cap, rfl, hlc, hcm, _, hc⟩ := h1
  obtain ⟨a', cap', rfl, hlc', hcm', _, hc'⟩ := h2
  by_cases hn : xs.length = ys.length
  · have HC : Hid (0 < xs.length → ∃ b off, a = some ⟨b, off, none⟩ ∧ b < w.heap.size ∧ ∀ i, i < xs.length → w.cell? ⟨b, off + i, none⟩ = some (.int .i64 (xs.getD i 0))) := hc
    have HC' : Hid (0 < ys.length → ∃ b off, a' = some ⟨b, off, none⟩ ∧ b < w.heap.size ∧ ∀ i, i < ys.length → w.cell? ⟨b, off + i, none⟩ = some (.int .i64 (ys.getD i 0))) := hc'
    clear hc hc'
    have hni : (xs.length : Int) = (ys.length : Int) := by omega
    go_enter Tryz.func25, Tryz.ntmps25
    go_wp2_with fail
    go_loopw [5] (fun i wr => ∃ k n : Nat, k ≤ xs.length ∧ i = .int .i64 k ∧ xs.take k = ys.take k ∧ wr = w.drewN n) (fun i _ => xs.length - (intOf i).toNat)
    case atStart => exact ⟨0, 0, Nat.zero_le _, rfl, by simp, rfl⟩
    case round =>
      obtain ⟨k, n, hk, rfl, ht, rfl⟩ := hrel
      by_cases hlt : k < xs.length
      · obtain ⟨b, off, rfl, hb, hc⟩ := HC.out (by omega)
        obtain ⟨b', off', rfl, hb', hc'⟩ := HC'.out (by omega)
        have c0 := hc k hlt
        have c1 := hc' k (by omega)
        have HT : Hid (xs.getD k 0 = ys.getD k 0 → xs.take (k + 1) = ys.take (k + 1)) := fun e => take_succ_eq ht hlt (by omega) e
        have HN : Hid (¬ xs.getD k 0 = ys.getD k 0 → decide (xs = ys) = false) := fun e => by simp only [decide_eq_false_iff_not]; intro e'; subst e'; exact e rfl
        clear hc hc' ht HC HC'
        have hlt' : k < ys.length := by omega
        generalize xs.getD k 0 = x at *
        generalize ys.getD k 0 = y at *
        by_cases hxy : x = y
        · go_wp2
          go_quiet (fail)
          go_wp2
          exact ⟨⟨k + 1, n + nq, by omega, by go_num, HT hxy, rfl⟩, by simp [intOf]; omega⟩
        · go_wp2
          go_quiet (fail)
          go_wp2
          go_ret
          exact ⟨by rw [HN hxy]; rfl, n + nq, by rw [World.drewN_drewN]⟩
      · have e : xs = ys := by
          have e1 : xs.take k = xs := List.take_of_length_le (by omega)
          have e2 : ys.take k = ys := List.take_of_length_le (by omega)
          rw [← e1, ht, e2]
        have HE : Hid (decide (xs = ys) = true) := by show _ = true; simpa using e
        clear ht e HC HC'
        go_wp2
        go_ret
        exact ⟨by rw [HE.out]; rfl, _, rfl⟩
  · have hni : ¬ (xs.length : Int) = (ys.length : Int) := by omega
    clear hc hc'
    go_enter Tryz.func25, Tryz.ntmps25
    go_wp2
    go_ret
    exact ⟨by rw [decide_eq_false (fun e => hn (by rw [e]))]; rfl, 0, rfl⟩

/-- The numbers from k on. -/
def marks (k : Int) (n : Nat) : List Int := (List.range n).map (fun i : Nat => k + (i : Int))
theorem marks_length (k : Int) (n : Nat) : (marks k n).length = n := by simp [marks]
theorem marks_getD (k : Int) {n i : Nat} (h : i < n) : (marks k n).getD i 0 = k + i := by simp [marks, List.getD_eq_getElem?_getD, h]
theorem marks_set {xs : List Int} {k : Nat} (k0 : Int) (h : k < xs.length) : (marks k0 k ++ xs.drop k).set k (k0 + (k : Int)) = marks k0 (k + 1) ++ xs.drop (k + 1) := by
  apply List.ext_getElem?
  intro i
  simp only [marks, List.getElem?_set, List.getElem?_append, List.length_map, List.length_range, List.getElem?_map, List.getElem?_drop, List.length_append, List.length_drop]
  grind

set_option maxHeartbeats 1000000 in
theorem markInt64S_any {w : World} {base : Nat} {v : Value} {xs : List Int} (h : Own w base v xs) (hl : xs.length ≤ 1048576) (k0 : Int) (hk0 : 0 ≤ k0) (hk1 : k0 ≤ 1048577) :
    Calls Tryz.prog 26 #[v, .int .i64 k0] w fun e w' => e = .returned (.int .i64 (k0 + xs.length)) ∧ Own w' base v (marks k0 xs.length) ∧ w.grownBy w' v.ownBlock := by
  have h' := h
  obtain ⟨_, ⟨rfl, hn⟩ | ⟨g, cap, cur, rfl, hg, hh, hle, hm, hs, ht⟩⟩ := h
  · have e : xs = [] := by simpa using hn
    subst e
    have HO : Hid (Own w base (.slice none 0 0) (marks k0 0)) := h'
    clear h' hn
    go_enter Tryz.func26, Tryz.ntmps26
    go_wp2
    refine wp_loop_rounds 1 ?_
    rw [rounds_succ]
    go_wp2
    go_ret
    exact ⟨by simp, HO, World.grownBy.refl _ _⟩
  · have HO : Hid (w.ownsRow base 2 1 (.slice (some ⟨g, 0, none⟩) xs.length cap) xs.length (cellsOf (marks k0 0 ++ xs.drop 0))) := h'
    clear h' hg hh hs ht cur
    go_enter Tryz.func26, Tryz.ntmps26
    go_wp2_with fail
    go_loopw [1, 5] (fun q i wr => ∃ k : Nat, k ≤ xs.length ∧ i = .int .i64 k ∧ q = .int .i64 (k0 + (k : Int)) ∧ wr.ownsRow base 2 1 (.slice (some ⟨g, 0, none⟩) xs.length cap) xs.length (cellsOf (marks k0 k ++ xs.drop k)) ∧ w.grownBy wr (some g)) (fun _ i _ => xs.length - (intOf i).toNat)
    case atStart => exact ⟨0, Nat.zero_le _, rfl, by simp, HO, World.grownBy.refl _ _⟩
    case round =>
      obtain ⟨k, hk, rfl, rfl, Or, Gr⟩ := hrel
      by_cases hlt : k < xs.length
      · have c0 := World.ownsRow.cellAt Or k (by omega)
        have c1 := World.ownsRow.frozenAt Or k
        have S := World.ownsRow.stored Or k (.int .i64 (k0 + (k : Int)))
        have e1 : (cellsOf (marks k0 k ++ xs.drop k)).set k (.int .i64 (k0 + (k : Int))) = cellsOf (marks k0 (k + 1) ++ xs.drop (k + 1)) := by
          rw [← marks_set k0 hlt]; simp [cellsOf, List.map_set]
        rw [e1] at S
        have HS : Hid _ := S.1
        have HG : Hid (w.grownBy (wr.setCell ⟨g, k, none⟩ (.int .i64 (k0 + (k : Int)))) (some g)) := ⟨S.2.os.trans Gr.os, S.2.tape.trans Gr.tape, S.2.output.trans Gr.output, Nat.le_trans Gr.size S.2.size, fun i hi hne => (S.2.block i (Nat.lt_of_lt_of_le hi Gr.size) hne).trans (Gr.block i hi hne)⟩
        have c2 : ∃ y, (cellsOf (marks k0 k ++ xs.drop k))[k]? = some y := ⟨_, List.getElem?_eq_getElem (by simp [marks]; omega)⟩
        obtain ⟨y, hy⟩ := c2
        rw [hy] at c0
        clear Or Gr S e1 HO hy
        go_wp2
        exact ⟨⟨k + 1, by omega, by go_num, by go_num, HS, HG⟩, by simp [intOf]; omega⟩
      · have e : k = xs.length := by omega
        subst e
        have HS : Hid (Own wr base (.slice (some ⟨g, 0, none⟩) xs.length cap) (marks k0 xs.length)) := by
          show World.ownsRow wr base _ 1 _ (marks k0 xs.length).length _
          rw [marks_length]
          simpa using Or
        have HG : Hid _ := Gr
        clear Or Gr HO
        go_wp2
        go_ret
        exact ⟨rfl, HS, HG⟩

set_option maxHeartbeats 1000000 in
theorem heldInt64S_any {w : World} {v : Value} {n : Nat} (k0 : Int) (h : IntsAt w v (marks k0 n)) (hl : n ≤ 1048576) (hk0 : 0 ≤ k0) (hk1 : k0 ≤ 1048577) :
    Calls Tryz.prog 27 #[v, .int .i64 k0] w fun e w' => e = .returned (.int .i64 (k0 + n)) ∧ w' = w := by
  obtain ⟨a, cap, rfl, hlc, hcm, _, hc⟩ := h
  rw [marks_length] at *
  have HC : Hid _ := hc
  clear hc
  go_enter Tryz.func27, Tryz.ntmps27
  go_wp2_with fail
  go_loop [1, 5] (fun q i => ∃ k : Nat, k ≤ n ∧ i = .int .i64 k ∧ q = .int .i64 (k0 + (k : Int))) (fun _ i => n - (intOf i).toNat)
  case atStart => exact ⟨0, Nat.zero_le _, rfl, by simp⟩
  case round =>
    obtain ⟨k, hk, rfl, rfl⟩ := hrel
    by_cases hlt : k < n
    · obtain ⟨b, off, rfl, hb, hc⟩ := HC.out (by omega)
      have c0 := hc k hlt
      rw [marks_getD k0 hlt] at c0
      clear hc HC
      go_wp2
      go_round
      case rel => exact ⟨k + 1, by omega, by go_num, by go_num⟩
      case measure => simp [intOf]; omega
    · have e : k = n := by omega
      subst e
      go_wp2
      go_ret
      exact ⟨rfl, rfl⟩
end Go.Proofs.YtmhbdmmpmagbkaaGreat.rows
namespace Go.Proofs.YtmhbdmmpmagbkaaGreat.hp
open Go.RowKit rows heads words walks
set_option maxRecDepth 100000

/-- The block of a row. -/
def blk (v : Value) : List Nat := v.ownBlock.toList
/-- Nothing but the blocks S has changed of what there was. -/
structure Ch (S : List Nat) (w w' : World) : Prop where
  os : w'.os = w.os
  tape : w'.tape = w.tape
  output : w'.output = w.output
  size : w.heap.size ≤ w'.heap.size
  block : ∀ k, k < w.heap.size → k ∉ S → w'.heap[k]? = w.heap[k]?
theorem Ch.refl (S : List Nat) (w : World) : Ch S w w := ⟨rfl, rfl, rfl, Nat.le_refl _, fun _ _ _ => rfl⟩
theorem Ch.trans {S : List Nat} {a b c : World} (h : Ch S a b) (k : Ch S b c) : Ch S a c :=
  ⟨k.os.trans h.os, k.tape.trans h.tape, k.output.trans h.output, Nat.le_trans h.size k.size, fun i hi hn => (k.block i (Nat.lt_of_lt_of_le hi h.size) hn).trans (h.block i hi hn)⟩
theorem Ch.mono {S T : List Nat} {a b : World} (h : Ch S a b) (hs : ∀ k ∈ S, k ∈ T) : Ch T a b := ⟨h.os, h.tape, h.output, h.size, fun k hk hn => h.block k hk (fun e => hn (hs k e))⟩
theorem ch_grown {a b : World} {v : Value} (h : a.grownBy b v.ownBlock) : Ch (blk v) a b := ⟨h.os, h.tape, h.output, h.size, fun k hk hn => h.block k hk (fun e => hn (by unfold blk; rw [← e]; simp))⟩
theorem ch_below {S : List Nat} {a b : World} (h : Below a.heap.size a b) : Ch S a b := ⟨h.os, h.tape, h.output, h.size, fun k hk _ => h.block k hk⟩
theorem below_ch {S : List Nat} {B : Nat} {a b : World} (h : Ch S a b) (hb : B ≤ a.heap.size) (hs : ∀ k ∈ S, B ≤ k) : Below B a b := ⟨h.os, h.tape, h.output, h.size, fun k hk => h.block k (by omega) (fun e => by have := hs k e; omega)⟩
theorem row_ch {S : List Nat} {w w' : World} {base size n : Nat} {t : TypeId} {v : Value} {xs : List Value} (h : w.ownsRow base t size v n xs) (hc : Ch S w w') (hd : ∀ k ∈ blk v, k ∉ S) : w'.ownsRow base t size v n xs := by
  obtain ⟨h0, ⟨h1, h2⟩ | ⟨g, cap, cur, h1, hg, hh, hle, hm, hs, ht⟩⟩ := h
  · exact ⟨h0, .inl ⟨h1, h2⟩⟩
  · refine ⟨h0, .inr ⟨g, cap, cur, h1, hg, (hc.block g (lt_of_block hh) (hd g ?_)).trans hh, hle, hm, hs, ht⟩⟩
    rw [h1]; simp [blk, Value.ownBlock]
theorem blk_lt {w : World} {base n size : Nat} {t : TypeId} {v : Value} {xs : List Value} (h : w.ownsRow base t size v n xs) : ∀ k ∈ blk v, base ≤ k ∧ k < w.heap.size := fun k hk => World.ownsRow.lt h k (by unfold blk at hk; exact Option.mem_toList.1 hk)
theorem one_ch (Y : World) (b k : Nat) (u : Value) : Ch [b] Y (Y.setCell ⟨b, k, none⟩ u) := ⟨rfl, rfl, rfl, by simp, fun j _ hn => Below.heap_setCell Y _ u j (fun e => hn (by simp [e]))⟩
theorem bel_of_drewN {w w' : World} (h : ∃ n, w' = w.drewN n) : Below w.heap.size w w' := by
  obtain ⟨n, rfl⟩ := h
  exact ⟨rfl, rfl, rfl, Nat.le_refl _, fun _ _ => rfl⟩
theorem ints_slice {w : World} {v : Value} {xs : List Int} (h : IntsAt w v xs) : ∃ a n c, v = .slice a n c := by
  obtain ⟨a, c, e, _⟩ := h
  exact ⟨a, _, c, e⟩

/-- The blocks of a heap's four rows. -/
def hblk (vr vo vm vs : Value) : List Nat := blk vr ++ blk vo ++ blk vm ++ blk vs
/-- A heap of the call's own, no two rows in one block. -/
def OwnH (w : World) (base : Nat) (vr vo vm vs : Value) (H : Hp) : Prop := (rows.Own w base vr H.row ∧ rows.Own w base vo H.roots ∧ rows.Own w base vm H.mourned ∧ rows.Own w base vs H.seen) ∧ (hblk vr vo vm vs).Nodup
theorem ownH_at {w : World} {base : Nat} {vr vo vm vs : Value} {H : Hp} (h : OwnH w base vr vo vm vs H) : HpAt w vr vo vm vs H := ⟨own_ints h.1.1, own_ints h.1.2.1, own_ints h.1.2.2.1, own_ints h.1.2.2.2⟩
theorem ownH_below {w w' : World} {base : Nat} {vr vo vm vs : Value} {H : Hp} (h : OwnH w base vr vo vm vs H) (hb : Below w.heap.size w w') : OwnH w' base vr vo vm vs H := ⟨⟨own_below h.1.1 hb, own_below h.1.2.1 hb, own_below h.1.2.2.1 hb, own_below h.1.2.2.2 hb⟩, h.2⟩
theorem ownH_base {w : World} {base base' : Nat} {vr vo vm vs : Value} {H : Hp} (h : OwnH w base vr vo vm vs H) (hb : base' ≤ base) : OwnH w base' vr vo vm vs H := ⟨⟨own_base h.1.1 hb, own_base h.1.2.1 hb, own_base h.1.2.2.1 hb, own_base h.1.2.2.2 hb⟩, h.2⟩
theorem in_hblk {vr vo vm vs : Value} : (∀ k ∈ blk vr, k ∈ hblk vr vo vm vs) ∧ (∀ k ∈ blk vo, k ∈ hblk vr vo vm vs) ∧ (∀ k ∈ blk vm, k ∈ hblk vr vo vm vs) ∧ ∀ k ∈ blk vs, k ∈ hblk vr vo vm vs := by
  unfold hblk
  simp only [List.mem_append]
  exact ⟨fun k h => .inl (.inl (.inl h)), fun k h => .inl (.inl (.inr h)), fun k h => .inl (.inr h), fun k h => .inr h⟩
theorem ownH_lt {w : World} {base : Nat} {vr vo vm vs : Value} {H : Hp} (h : OwnH w base vr vo vm vs H) : ∀ k ∈ hblk vr vo vm vs, base ≤ k ∧ k < w.heap.size := by
  intro k hk
  simp only [hblk, List.mem_append] at hk
  rcases hk with ((hk | hk) | hk) | hk
  · exact blk_lt h.1.1 k hk
  · exact blk_lt h.1.2.1 k hk
  · exact blk_lt h.1.2.2.1 k hk
  · exact blk_lt h.1.2.2.2 k hk
theorem ownH_ch {S : List Nat} {w w' : World} {base : Nat} {vr vo vm vs : Value} {H : Hp} (h : OwnH w base vr vo vm vs H) (hc : Ch S w w') (hd : ∀ k ∈ hblk vr vo vm vs, k ∉ S) : OwnH w' base vr vo vm vs H := by
  obtain ⟨i1, i2, i3, i4⟩ := @in_hblk vr vo vm vs
  exact ⟨⟨row_ch h.1.1 hc (fun k hk => hd k (i1 k hk)), row_ch h.1.2.1 hc (fun k hk => hd k (i2 k hk)), row_ch h.1.2.2.1 hc (fun k hk => hd k (i3 k hk)), row_ch h.1.2.2.2 hc (fun k hk => hd k (i4 k hk))⟩, h.2⟩
theorem hblk_apart {vr vo vm vs : Value} (h : (hblk vr vo vm vs).Nodup) : ((∀ k ∈ blk vr, k ∉ blk vo) ∧ (∀ k ∈ blk vr, k ∉ blk vm) ∧ ∀ k ∈ blk vr, k ∉ blk vs) ∧ ((∀ k ∈ blk vo, k ∉ blk vm) ∧ ∀ k ∈ blk vo, k ∉ blk vs) ∧ ∀ k ∈ blk vm, k ∉ blk vs := by
  unfold hblk at h
  rw [List.nodup_append, List.nodup_append, List.nodup_append] at h
  obtain ⟨⟨⟨_, _, h1⟩, _, h2⟩, _, h3⟩ := h
  refine ⟨⟨fun k hk e => h1 k hk k e rfl, fun k hk e => h2 k (List.mem_append.2 (.inl hk)) k e rfl, fun k hk e => h3 k (List.mem_append.2 (.inl (List.mem_append.2 (.inl hk)))) k e rfl⟩, ⟨fun k hk e => h2 k (List.mem_append.2 (.inr hk)) k e rfl, fun k hk e => h3 k (List.mem_append.2 (.inl (List.mem_append.2 (.inr hk)))) k e rfl⟩, fun k hk e => h3 k (List.mem_append.2 (.inr hk)) k e rfl⟩
theorem nine_mk (w : World) (t : TypeId) (c0 c1 c2 c3 c4 c5 c6 c7 c8 : Value) : Nine (w.alloc (.cells #[c0, c1, c2, c3, c4, c5, c6, c7, c8] t)) w.heap.size t c0 c1 c2 c3 c4 c5 c6 c7 c8 := heap_alloc_new w _
theorem nine_ch {S : List Nat} {w w' : World} {b : Nat} {t : TypeId} {c0 c1 c2 c3 c4 c5 c6 c7 c8 : Value} (h : Nine w b t c0 c1 c2 c3 c4 c5 c6 c7 c8) (hc : Ch S w w') (hb : b ∉ S) : Nine w' b t c0 c1 c2 c3 c4 c5 c6 c7 c8 := (hc.block b (lt_of_block h) hb).trans h
theorem cells_setCell9 {w : World} {b : Nat} {c : Array Value} {t : TypeId} (h : w.heap[b]? = some (.cells c t (0, 0))) (k : Nat) (u : Value) :
    (w.setCell ⟨b, k, none⟩ u).heap[b]? = some (.cells (c.setIfInBounds k u) t (0, 0)) := block_setCell h k u
theorem nine_set0 {w : World} {b : Nat} {t : TypeId} {c0 c1 c2 c3 c4 c5 c6 c7 c8 : Value} (h : Nine w b t c0 c1 c2 c3 c4 c5 c6 c7 c8) (u : Value) : Nine (w.setCell ⟨b, 0, none⟩ u) b t u c1 c2 c3 c4 c5 c6 c7 c8 := (cells_setCell9 h 0 u).trans (by simp)
theorem nine_set1 {w : World} {b : Nat} {t : TypeId} {c0 c1 c2 c3 c4 c5 c6 c7 c8 : Value} (h : Nine w b t c0 c1 c2 c3 c4 c5 c6 c7 c8) (u : Value) : Nine (w.setCell ⟨b, 1, none⟩ u) b t c0 u c2 c3 c4 c5 c6 c7 c8 := (cells_setCell9 h 1 u).trans (by simp)
theorem nine_set2 {w : World} {b : Nat} {t : TypeId} {c0 c1 c2 c3 c4 c5 c6 c7 c8 : Value} (h : Nine w b t c0 c1 c2 c3 c4 c5 c6 c7 c8) (u : Value) : Nine (w.setCell ⟨b, 2, none⟩ u) b t c0 c1 u c3 c4 c5 c6 c7 c8 := (cells_setCell9 h 2 u).trans (by simp)
theorem nine_set3 {w : World} {b : Nat} {t : TypeId} {c0 c1 c2 c3 c4 c5 c6 c7 c8 : Value} (h : Nine w b t c0 c1 c2 c3 c4 c5 c6 c7 c8) (u : Value) : Nine (w.setCell ⟨b, 3, none⟩ u) b t c0 c1 c2 u c4 c5 c6 c7 c8 := (cells_setCell9 h 3 u).trans (by simp)
theorem nine_set4 {w : World} {b : Nat} {t : TypeId} {c0 c1 c2 c3 c4 c5 c6 c7 c8 : Value} (h : Nine w b t c0 c1 c2 c3 c4 c5 c6 c7 c8) (u : Value) : Nine (w.setCell ⟨b, 4, none⟩ u) b t c0 c1 c2 c3 u c5 c6 c7 c8 := (cells_setCell9 h 4 u).trans (by simp)
theorem nine_set5 {w : World} {b : Nat} {t : TypeId} {c0 c1 c2 c3 c4 c5 c6 c7 c8 : Value} (h : Nine w b t c0 c1 c2 c3 c4 c5 c6 c7 c8) (u : Value) : Nine (w.setCell ⟨b, 5, none⟩ u) b t c0 c1 c2 c3 c4 u c6 c7 c8 := (cells_setCell9 h 5 u).trans (by simp)
theorem nine_set6 {w : World} {b : Nat} {t : TypeId} {c0 c1 c2 c3 c4 c5 c6 c7 c8 : Value} (h : Nine w b t c0 c1 c2 c3 c4 c5 c6 c7 c8) (u : Value) : Nine (w.setCell ⟨b, 6, none⟩ u) b t c0 c1 c2 c3 c4 c5 u c7 c8 := (cells_setCell9 h 6 u).trans (by simp)
theorem nine_set7 {w : World} {b : Nat} {t : TypeId} {c0 c1 c2 c3 c4 c5 c6 c7 c8 : Value} (h : Nine w b t c0 c1 c2 c3 c4 c5 c6 c7 c8) (u : Value) : Nine (w.setCell ⟨b, 7, none⟩ u) b t c0 c1 c2 c3 c4 c5 c6 u c8 := (cells_setCell9 h 7 u).trans (by simp)
theorem nine_set8 {w : World} {b : Nat} {t : TypeId} {c0 c1 c2 c3 c4 c5 c6 c7 c8 : Value} (h : Nine w b t c0 c1 c2 c3 c4 c5 c6 c7 c8) (u : Value) : Nine (w.setCell ⟨b, 8, none⟩ u) b t c0 c1 c2 c3 c4 c5 c6 c7 u := (cells_setCell9 h 8 u).trans (by simp)
theorem nine_sets {w : World} {b : Nat} {t : TypeId} {c0 c1 c2 c3 c4 c5 c6 c7 c8 : Value} (h : Nine w b t c0 c1 c2 c3 c4 c5 c6 c7 c8) (u0 u1 u2 u3 u4 u5 u6 u7 u8 : Value) : Nine (((((((((w.setCell ⟨b, 0, none⟩ u0).setCell ⟨b, 1, none⟩ u1).setCell ⟨b, 2, none⟩ u2).setCell ⟨b, 3, none⟩ u3).setCell ⟨b, 4, none⟩ u4).setCell ⟨b, 5, none⟩ u5).setCell ⟨b, 6, none⟩ u6).setCell ⟨b, 7, none⟩ u7).setCell ⟨b, 8, none⟩ u8) b t u0 u1 u2 u3 u4 u5 u6 u7 u8 := (nine_set8 (nine_set7 (nine_set6 (nine_set5 (nine_set4 (nine_set3 (nine_set2 (nine_set1 (nine_set0 h _) _) _) _) _) _) _) _) _)
theorem nine_belows {n : Nat} {w X : World} {b : Nat} (hB : Below n w X) (hb : n ≤ b) (u0 u1 u2 u3 u4 u5 u6 u7 u8 : Value) : Below n w (((((((((X.setCell ⟨b, 0, none⟩ u0).setCell ⟨b, 1, none⟩ u1).setCell ⟨b, 2, none⟩ u2).setCell ⟨b, 3, none⟩ u3).setCell ⟨b, 4, none⟩ u4).setCell ⟨b, 5, none⟩ u5).setCell ⟨b, 6, none⟩ u6).setCell ⟨b, 7, none⟩ u7).setCell ⟨b, 8, none⟩ u8) := (Below.setCell (Below.setCell (Below.setCell (Below.setCell (Below.setCell (Below.setCell (Below.setCell (Below.setCell (Below.setCell hB (p := ⟨b, 0, none⟩) hb _) (p := ⟨b, 1, none⟩) hb _) (p := ⟨b, 2, none⟩) hb _) (p := ⟨b, 3, none⟩) hb _) (p := ⟨b, 4, none⟩) hb _) (p := ⟨b, 5, none⟩) hb _) (p := ⟨b, 6, none⟩) hb _) (p := ⟨b, 7, none⟩) hb _) (p := ⟨b, 8, none⟩) hb _)
theorem nine_other {X : World} {b : Nat} (u0 u1 u2 u3 u4 u5 u6 u7 u8 : Value) : Ch [b] X (((((((((X.setCell ⟨b, 0, none⟩ u0).setCell ⟨b, 1, none⟩ u1).setCell ⟨b, 2, none⟩ u2).setCell ⟨b, 3, none⟩ u3).setCell ⟨b, 4, none⟩ u4).setCell ⟨b, 5, none⟩ u5).setCell ⟨b, 6, none⟩ u6).setCell ⟨b, 7, none⟩ u7).setCell ⟨b, 8, none⟩ u8) := (Ch.trans (Ch.trans (Ch.trans (Ch.trans (Ch.trans (Ch.trans (Ch.trans (Ch.trans (one_ch _ _ _ _) (one_ch _ _ _ _)) (one_ch _ _ _ _)) (one_ch _ _ _ _)) (one_ch _ _ _ _)) (one_ch _ _ _ _)) (one_ch _ _ _ _)) (one_ch _ _ _ _)) (one_ch _ _ _ _))
theorem res_heap {fn : Func} {tmps : Array Value} {X : World} {j b : Nat} {a1 a2 a3 a4 : Option Addr} {n1 d1 n2 d2 n3 d3 n4 d4 : Nat} {x0 x1 x3 x4 x8 : Int} (hf : fn.results = #[.cell j 31]) (h2 : tmps[j]? = some (.pointer (some ⟨b, 0, none⟩))) (hX : Nine X b 31 (.int .i64 x0) (.int .i64 x1) (.slice a1 n1 d1) (.int .i64 x3) (.int .i64 x4) (.slice a2 n2 d2) (.slice a3 n3 d3) (.slice a4 n4 d4) (.int .i64 x8)) :
    (results fn tmps).run Tryz.prog X = .ok (.agg #[.int .i64 x0, .int .i64 x1, .slice a1 n1 d1, .int .i64 x3, .int .i64 x4, .slice a2 n2 d2, .slice a3 n3 d3, .slice a4 n4 d4, .int .i64 x8]) X := by
  obtain ⟨⟨k0, k1, k2, k3, k4⟩, ⟨k5, k6, k7, k8⟩, _⟩ := nine_cells hX
  clear hX
  simp [results, hf, h2, go_sem, k0, k1, k2, k3, k4, k5, k6, k7, k8]
theorem res_heap2 {fn : Func} {tmps : Array Value} {X : World} {j i b : Nat} {bb : Bool} {a1 a2 a3 a4 : Option Addr} {n1 d1 n2 d2 n3 d3 n4 d4 : Nat} {x0 x1 x3 x4 x8 : Int} (hf : fn.results = #[.cell j 31, .tmp i]) (h2 : tmps[j]? = some (.pointer (some ⟨b, 0, none⟩))) (h3 : tmps[i]? = some (.bool bb)) (hX : Nine X b 31 (.int .i64 x0) (.int .i64 x1) (.slice a1 n1 d1) (.int .i64 x3) (.int .i64 x4) (.slice a2 n2 d2) (.slice a3 n3 d3) (.slice a4 n4 d4) (.int .i64 x8)) :
    (results fn tmps).run Tryz.prog X = .ok (.tuple #[.agg #[.int .i64 x0, .int .i64 x1, .slice a1 n1 d1, .int .i64 x3, .int .i64 x4, .slice a2 n2 d2, .slice a3 n3 d3, .slice a4 n4 d4, .int .i64 x8], .bool bb]) X := by
  obtain ⟨⟨k0, k1, k2, k3, k4⟩, ⟨k5, k6, k7, k8⟩, _⟩ := nine_cells hX
  clear hX
  simp [results, hf, h2, h3, go_sem, k0, k1, k2, k3, k4, k5, k6, k7, k8]
end Go.Proofs.YtmhbdmmpmagbkaaGreat.hp
namespace Go.Proofs.YtmhbdmmpmagbkaaGreat.rows
open Go.RowKit
set_option maxRecDepth 100000

/-- The blocks of v lie from lo on and below hi. -/
def In (lo hi : Nat) (v : Value) : Prop := ∀ k, v.ownBlock = some k → lo ≤ k ∧ k < hi

theorem own_in {w : World} {base : Nat} {v : Value} {xs : List Int} (h : Own w base v xs) : In base w.heap.size v := fun k e => World.ownsRow.lt h k e
theorem own_grown {w w' : World} {base lo hi g : Nat} {v : Value} {xs : List Int} (h : Own w base v xs) (hi' : In lo hi v) (hg : w.grownBy w' (some g)) (hne : g < lo ∨ hi ≤ g) : Own w' base v xs := by
  refine World.ownsRow.kept h hg ?_
  cases e : v.ownBlock with
  | none => exact .inl rfl
  | some k =>
    have := hi' k e
    refine .inr (fun e' => ?_)
    injection e' with e'
    omega
theorem own_drewN {w : World} {base n : Nat} {v : Value} {xs : List Int} (h : Own w base v xs) : Own (w.drewN n) base v xs := h
theorem below_drewN {B n : Nat} {w w' : World} (h : Below B w w') : Below B w (w'.drewN n) := ⟨h.os, h.tape, h.output, h.size, h.block⟩
theorem intsAt_drewN {w : World} {n : Nat} {v : Value} {xs : List Int} (h : IntsAt w v xs) : IntsAt (w.drewN n) v xs := h
theorem below_own {B lo hi : Nat} {w w1 w2 : World} {v : Value} (h : Below B w w1) (hg : w1.grownBy w2 v.ownBlock) (hi' : In lo hi v) (hB : B ≤ lo) (hs : B ≤ w1.heap.size) : Below B w w2 :=
  h.grown hg hs (fun k e => Nat.le_trans hB (hi' k e).1)
theorem own_grown' {w w' : World} {base lo hi lo' hi' : Nat} {v u : Value} {xs : List Int} (h : Own w base v xs) (i1 : In lo hi v) (hg : w.grownBy w' u.ownBlock) (i2 : In lo' hi' u) (hne : hi' ≤ lo ∨ hi ≤ lo') : Own w' base v xs := by
  refine World.ownsRow.kept h hg ?_
  cases e : v.ownBlock with
  | none => exact .inl rfl
  | some k =>
    have h1 := i1 k e
    refine .inr (fun e' => ?_)
    have h2 := i2 k e'.symm
    omega

theorem full_in {b : Nat} {n cap : Nat} : In b (b + 1) (.slice (some ⟨b, 0, none⟩) n cap) := fun k e => by
  injection e with e
  subst e
  exact ⟨Nat.le_refl _, Nat.lt_succ_self _⟩

end Go.Proofs.YtmhbdmmpmagbkaaGreat.rows
namespace Go.Proofs.YtmhbdmmpmagbkaaGreat.rows
open Go.RowKit

theorem eqInt64S_same {w : World} {v1 v2 : Value} {xs : List Int} (h1 : IntsAt w v1 xs) (h2 : IntsAt w v2 xs) (hl : xs.length ≤ 1048576) :
    Calls Tryz.prog 25 #[v1, v2] w fun e w' => e = .returned (.bool true) ∧ ∃ n, w' = w.drewN n :=
  (eqInt64S_any h1 h2 hl).mono fun _ _ ⟨he, hw⟩ => ⟨by rw [he]; simp, hw⟩

/-- A row of numbers that came in, as the laws open it. -/
theorem row_ints {k : IntKind} {w : World} {a : Option Addr} {len cap : Nat} {zs : List Int} (hk : k = .i64)
    (h : (a = none ∧ len = 0 ∧ cap = 0 ∧ zs = []) ∨ ∃ x, a = some x ∧ len ≤ cap ∧ cap ≤ maxLen ∧ zs.length = cap ∧ (∀ i, i < zs.length → w.cell? (x.add i) = some (.int k (zs.getD i 0))) ∧ ∀ n ∈ zs, (Lit.int k n).wf = true) :
    ∃ xs, xs.length = len ∧ IntsAt w (.slice a len cap) xs := by
  subst hk
  rcases h with ⟨rfl, rfl, rfl, rfl⟩ | ⟨x, rfl, hl, hm, hz, hc, _⟩
  · exact ⟨[], rfl, none, 0, rfl, Nat.le_refl _, by decide, fun _ => rfl, fun hp => absurd hp (by simp)⟩
  · have e : (zs.take len).length = len := by simp; omega
    refine ⟨zs.take len, e, some x, cap, by rw [e], by omega, hm, fun h => (by cases h), fun hp => ?_⟩
    obtain ⟨b, off, rfl, hc'⟩ := ints_at hc (by omega)
    refine ⟨b, off, rfl, World.block_lt_of_cell? w _ (hc' 0 (by omega)), fun i hi => ?_⟩
    rw [hc' i (by omega)]
    simp only [List.getD_eq_getElem?_getD]
    rw [List.getElem?_take, if_pos (by omega)]
end Go.Proofs.YtmhbdmmpmagbkaaGreat.rows
namespace Go.Proofs.YtmhbdmmpmagbkaaGreat.walks
open Go.RowKit rows

theorem row_ints_all {k : IntKind} {w : World} {a : Option Addr} {len cap : Nat} {zs : List Int} (hk : k = .i64)
    (h : (a = none ∧ len = 0 ∧ cap = 0 ∧ zs = []) ∨ ∃ x, a = some x ∧ len ≤ cap ∧ cap ≤ maxLen ∧ zs.length = cap ∧ (∀ i, i < zs.length → w.cell? (x.add i) = some (.int k (zs.getD i 0))) ∧ ∀ n ∈ zs, (Lit.int k n).wf = true) :
    ∃ xs, xs.length = len ∧ IntsAt w (.slice a len cap) xs ∧ AllI xs := by
  subst hk
  rcases h with ⟨rfl, rfl, rfl, rfl⟩ | ⟨x, rfl, hl, hm, hz, hc, hwf⟩
  · exact ⟨[], rfl, ⟨none, 0, rfl, Nat.le_refl _, by decide, fun _ => rfl, fun hp => absurd hp (by simp)⟩, allI_nil⟩
  · have e : (zs.take len).length = len := by simp; omega
    refine ⟨zs.take len, e, ⟨some x, cap, by rw [e], by omega, hm, fun h => (by cases h), fun hp => ?_⟩, fun y hy => i64_of_wf (hwf y (List.mem_of_mem_take hy))⟩
    obtain ⟨b, off, rfl, hc'⟩ := ints_at hc (by omega)
    refine ⟨b, off, rfl, World.block_lt_of_cell? w _ (hc' 0 (by omega)), fun i hi => ?_⟩
    rw [hc' i (by omega)]
    simp only [List.getD_eq_getElem?_getD]
    rw [List.getElem?_take, if_pos (by omega)]
end Go.Proofs.YtmhbdmmpmagbkaaGreat.walks
namespace Go.Proofs.YtmhbdmmpmagbkaaGreat.hp
open Go.ChangeShapes Go.WideShapes Go.ChangeAt Go.RowKit rows walks

/-- All its numbers are such as an int64 holds. -/
def HpI (H : Hp) : Prop := (I64 H.half ∧ I64 H.old ∧ I64 H.side ∧ I64 H.top ∧ I64 H.seed) ∧ AllI H.row ∧ AllI H.roots ∧ AllI H.mourned ∧ AllI H.seen
section
variable {H : Type} {enc : TypeId × Value → H} {P : Program} {w : World} {base : Nat} {held : Bool}

theorem list9 {α : Type} {cs : List α} (h : cs.length = 9) : ∃ c0 c1 c2 c3 c4 c5 c6 c7 c8, cs = [c0, c1, c2, c3, c4, c5, c6, c7, c8] := by
  match cs, h with
  | [c0, c1, c2, c3, c4, c5, c6, c7, c8], _ => exact ⟨c0, c1, c2, c3, c4, c5, c6, c7, c8, rfl⟩
theorem array9 {α : Type} {cs : Array α} (h : cs.size = 9) : ∃ c0 c1 c2 c3 c4 c5 c6 c7 c8, cs = #[c0, c1, c2, c3, c4, c5, c6, c7, c8] := by
  obtain ⟨l⟩ := cs
  match l, h with
  | [c0, c1, c2, c3, c4, c5, c6, c7, c8], _ => exact ⟨c0, c1, c2, c3, c4, c5, c6, c7, c8, rfl⟩
theorem open_list {t e : TypeId} {fuel : Nat} {v : Value} {x : DataW H × List MemPlace}
    (ht : P.underlying t = some (.slice e)) (he : P.underlying e = some (.int .i64)) (hc : P.cellsOf e = 1)
    (h : DataW.trod enc P w base (fun _ => true) held fuel t [v] = some x) : ∃ xs : List Int, IntsAt w v xs ∧ AllI xs := by
  rcases open_ints ht he hc h with ⟨hcs, _⟩ | ⟨x, l, c, zs, hcs, _, hl, hm, hz, _, hcell, hwz⟩
  · obtain rfl : v = .slice none 0 0 := by simpa using hcs
    obtain ⟨xs, _, hx, ha⟩ := row_ints_all (k := .i64) (w := w) (a := none) (len := 0) (cap := 0) (zs := []) rfl (.inl ⟨rfl, rfl, rfl, rfl⟩)
    exact ⟨xs, hx, ha⟩
  · obtain rfl : v = .slice (some x) l c := by simpa using hcs
    obtain ⟨xs, _, hx, ha⟩ := row_ints_all (k := .i64) (w := w) (a := some x) (len := l) (cap := c) (zs := zs) rfl (.inr ⟨_, rfl, hl, hm, by simpa using hz, hcell, hwz⟩)
    exact ⟨xs, hx, ha⟩
/-- A heap by value. -/
theorem open_heap {r : Reach} {b0 : Nat} {t ti tl : TypeId} {k0 k1 k2 k3 k4 k5 k6 k7 k8 : Field} {v : Value} {d : DataW H} {p : List MemPlace}
    (hs : P.underlying t = some (.struct #[k0, k1, k2, k3, k4, k5, k6, k7, k8])) (hC : P.cellsOf t = 9) (ki : P.cellsOf ti = 1) (kl : P.cellsOf tl = 1)
    (n0 : k0.offset = 0) (n1 : k1.offset = 1) (n2 : k2.offset = 2) (n3 : k3.offset = 3) (n4 : k4.offset = 4) (n5 : k5.offset = 5) (n6 : k6.offset = 6) (n7 : k7.offset = 7) (n8 : k8.offset = 8)
    (l0 : k0.type = ti) (l1 : k1.type = ti) (l2 : k2.type = tl) (l3 : k3.type = ti) (l4 : k4.type = ti) (l5 : k5.type = tl) (l6 : k6.type = tl) (l7 : k7.type = tl) (l8 : k8.type = ti)
    (hi : P.underlying ti = some (.int .i64)) (hl : P.underlying tl = some (.slice ti))
    (hv : Value.okWide P w r b0 t v) (h : DataW.Trod enc P w base (fun _ => true) held t v d p) :
    ∃ (vr vo vm vs : Value) (G : Hp), v = hpv G vr vo vm vs ∧ HpAt w vr vo vm vs G ∧ HpI G := by
  obtain ⟨cs, rfl, hsz⟩ := okWide_struct hs hv
  obtain ⟨c0, c1, c2, c3, c4, c5, c6, c7, c8, rfl⟩ := array9 (hsz.trans hC)
  obtain ⟨fuel, hf⟩ := h
  obtain ⟨xs, n, _, hx, _, hlen, hg⟩ := DataW.trod_struct hs hf
  obtain ⟨z0, z1, z2, z3, z4, z5, z6, z7, z8, rfl⟩ := list9 (show xs.length = 9 from hlen)
  have q0 : DataW.trod enc P w base (fun _ => true) held n ti [c0] = some z0 := by simpa [Value.cells, n0, ki, l0] using hg 0 k0 rfl
  have q1 : DataW.trod enc P w base (fun _ => true) held n ti [c1] = some z1 := by simpa [Value.cells, n1, ki, l1] using hg 1 k1 rfl
  have q2 : DataW.trod enc P w base (fun _ => true) held n tl [c2] = some z2 := by simpa [Value.cells, n2, kl, l2] using hg 2 k2 rfl
  have q3 : DataW.trod enc P w base (fun _ => true) held n ti [c3] = some z3 := by simpa [Value.cells, n3, ki, l3] using hg 3 k3 rfl
  have q4 : DataW.trod enc P w base (fun _ => true) held n ti [c4] = some z4 := by simpa [Value.cells, n4, ki, l4] using hg 4 k4 rfl
  have q5 : DataW.trod enc P w base (fun _ => true) held n tl [c5] = some z5 := by simpa [Value.cells, n5, kl, l5] using hg 5 k5 rfl
  have q6 : DataW.trod enc P w base (fun _ => true) held n tl [c6] = some z6 := by simpa [Value.cells, n6, kl, l6] using hg 6 k6 rfl
  have q7 : DataW.trod enc P w base (fun _ => true) held n tl [c7] = some z7 := by simpa [Value.cells, n7, kl, l7] using hg 7 k7 rfl
  have q8 : DataW.trod enc P w base (fun _ => true) held n ti [c8] = some z8 := by simpa [Value.cells, n8, ki, l8] using hg 8 k8 rfl
  obtain ⟨x0, e0, _, w0⟩ := DataW.trod_int hi q0
  obtain ⟨x1, e1, _, w1⟩ := DataW.trod_int hi q1
  obtain ⟨x3, e3, _, w3⟩ := DataW.trod_int hi q3
  obtain ⟨x4, e4, _, w4⟩ := DataW.trod_int hi q4
  obtain ⟨x8, e8, _, w8⟩ := DataW.trod_int hi q8
  simp only [List.cons.injEq, and_true] at e0 e1 e3 e4 e8
  subst e0 e1 e3 e4 e8
  obtain ⟨y2, r2, s2⟩ := open_list hl hi ki q2
  obtain ⟨y5, r5, s5⟩ := open_list hl hi ki q5
  obtain ⟨y6, r6, s6⟩ := open_list hl hi ki q6
  obtain ⟨y7, r7, s7⟩ := open_list hl hi ki q7
  exact ⟨c2, c5, c6, c7, ⟨x0, x1, y2, x3, x4, y5, y6, y7, x8⟩, rfl, ⟨r2, r5, r6, r7⟩, ⟨i64_of_wf w0, i64_of_wf w1, i64_of_wf w3, i64_of_wf w4, i64_of_wf w8⟩, s2, s5, s6, s7⟩
end
end Go.Proofs.YtmhbdmmpmagbkaaGreat.hp
namespace Go.Proofs.YtmhbdmmpmagbkaaGreat.region
open Go Go.RowKit

theorem wp_region_plain {P : Program} {id : Nat} {ops : Array Oper} {Q : Exit → Act → World → Prop} {a0 : Act} {w : World} (hm : P.follows .mixedOrders = true) (D : Nat → Bool)
    (hg : ∀ o ∈ ops, o.guard = none) (hacyc : ∀ (k : Nat) (o : Oper), ops[k]? = some o → ∀ e ∈ o.after, e.on < k) (n : Nat) (hn : ops.size = n + 1) (dst : Nat → Nat) (hinj : ∀ k, k < n → ∀ j, j < n → dst j = dst k → j = k)
    (F : Nat → Value → World → Prop) (hst : ∀ k t W W', Below W.heap.size W W' → F k t W → F k t W')
    (hall : ∀ o, ops[n]? = some o → ∀ j, j < n → ∃ e ∈ o.after, e.on = j ∧ Region.binds .any e = true)
    (step : ∀ k o u W, k < n → ops[k]? = some o → Below w.heap.size w W → (∀ j, j < n → (∃ e ∈ o.after, e.on = j ∧ Region.binds .any e = true) → F j (u (dst j)) W) → o.wp P (ovr D a0 u) W (fun a' W' => ∃ v, a' = ovr D a0 (upd u (dst k) v) ∧ Below W.heap.size W W' ∧ F k v W') Q)
    (last : ∀ o u W, ops[n]? = some o → Below w.heap.size w W → (∀ j, j < n → F j (u (dst j)) W) → o.wp P (ovr D a0 u) W (fun a' W' => ∃ u', a' = ovr D a0 u' ∧ Q .normal (ovr D a0 u') W') Q) :
    (Code.region id ops true).wp P Q a0 w := by
  refine wp_region_facts hm D hg hacyc (fun l u W => (l.getD n false = false ∧ Below w.heap.size w W ∧ ∀ k, k < n → l.getD k false = true → F k (u (dst k)) W) ∨ ((∀ k, k < n + 1 → l.getD k false = true) ∧ Q .normal (ovr D a0 u) W)) (.inl ⟨?_, (Below.refl _ w).drew, fun k hk h => ?_⟩) ?_ ?_
  · simp [Array.getD, hn]
  · simp [Array.getD, hn, show k < n + 1 by omega] at h
  · rintro l u W (⟨h1, _⟩ | ⟨_, h⟩) hA
    · rw [hA n (by omega)] at h1
      cases h1
    · exact h
  · rintro l u W k o (⟨h1, hB, hF⟩ | ⟨hA, _⟩) hl hlk ho hd
    case inr =>
      have hk : k < n + 1 := by rw [← hn]; exact (Array.getElem?_eq_some_iff.1 ho).1
      rw [hA k hk] at hlk
      cases hlk
    have hk : k < n + 1 := by rw [← hn]; exact (Array.getElem?_eq_some_iff.1 ho).1
    by_cases e : k = n
    · subst e
      have hA : ∀ j, j < k → l.getD j false = true := fun j hj => by
        obtain ⟨e, he, rfl, hb⟩ := hall o ho j hj
        exact hd e he hb
      refine Oper.wp_mono ?_ (last o u W ho hB (fun j hj => hF j hj (hA j hj)))
      rintro a' W' ⟨u', rfl, h⟩
      refine ⟨u', rfl, .inr ⟨fun j hj => ?_, h⟩⟩
      by_cases e : j = k
      · subst e; exact listed_ne (by omega)
      · rw [getD_other l (Ne.symm e)]; exact hA j (by omega)
    · have hk' : k < n := by omega
      refine Oper.wp_mono ?_ (step k o u W hk' ho hB (fun j hj ⟨e, he, e1, hb⟩ => hF j hj (by rw [← e1]; exact hd e he hb)))
      rintro a' W' ⟨v, rfl, hb, hv⟩
      refine ⟨_, rfl, .inl ⟨?_, hB.trans (hb.mono hB.size), ?_⟩⟩
      · rw [getD_other l e]; exact h1
      · exact facts_put (dst := dst) (hinj k hk') hF (fun j _ _ _ t => hst j t W W' hb) hv
/-- The operation k as it is handed in. -/
theorem has_plain {ops : Array Oper} {k : Nat} {d : Option Nat} {op : Op} {deps : List Nat} (h : Has ops k d op deps) {o : Oper} (ho : ops[k]? = some o) : o.dst = d ∧ o.op = op ∧ ∀ j ∈ deps, ∃ e ∈ o.after, e.on = j ∧ Region.binds .any e = true := by
  obtain ⟨o', ho', h1, h2, h3⟩ := h
  rw [ho] at ho'
  injection ho' with ho'
  subst ho'
  exact ⟨h1, h2, h3⟩
theorem wp_skip' {P : Program} {o : Oper} {a : Act} {w w' : World} {K : Act → World → Prop} {Q : Exit → Act → World → Prop} (h : (execOp a.eval o).run P w = .ok .skip w') (hk : K (a.put o.dst undef) w') : o.wp P a w K Q := by
  unfold Oper.wp
  rw [h]
  exact hk
end Go.Proofs.YtmhbdmmpmagbkaaGreat.region
namespace Go.Proofs.YtmhbdmmpmagbkaaGreat.region
open Go Go.RowKit

theorem wp_region_guarded {P : Program} {id : Nat} {ops : Array Oper} {Q : Exit → Act → World → Prop} {a0 : Act} {w : World} (hm : P.follows .mixedOrders = true) (D : Nat → Bool) (R : World → World → Prop) (Rtr : ∀ a b c, R a b → R b c → R a c) (Rdr : R w w.drew)
    (hacyc : ∀ (k : Nat) (o : Oper), ops[k]? = some o → ∀ e ∈ o.after, e.on < k) (n : Nat) (hn : ops.size = n) (dst : Nat → Nat) (hinj : ∀ k, k < n → ∀ j, j < n → dst j = dst k → j = k)
    (F : Nat → Value → World → Prop) (hst : ∀ k t W W', R W W' → F k t W → F k t W')
    (step : ∀ k o u W, k < n → ops[k]? = some o → R w W → (∀ j, j < n → (∃ e ∈ o.after, e.on = j ∧ Region.binds .any e = true) → F j (u (dst j)) W) →
      (Region.wanted o (yielded ops (ovr D a0 u).tmps) = true ∧ o.wp P (ovr D a0 u) W (fun a' W' => ∃ v, a' = ovr D a0 (upd u (dst k) v) ∧ R W W' ∧ F k v W') Q) ∨
      (Region.wanted o (yielded ops (ovr D a0 u).tmps) = false ∧ o.dst = some (dst k) ∧ D (dst k) = true ∧ F k undef W))
    (fin : ∀ u W, R w W → (∀ j, j < n → F j (u (dst j)) W) → Q .normal (ovr D a0 u) W) :
    (Code.region id ops true).wp P Q a0 w := by
  refine wp_region_inv hm (fun l a W => l.size = ops.size ∧ ∃ u, a = ovr D a0 u ∧ R w W ∧ ∀ k, k < n → l.getD k false = true → F k (u (dst k)) W) ⟨by simp, _, (ovr_self D a0).symm, Rdr, fun k hk h => ?_⟩ ?_ ?_
  · simp [Array.getD, hn, hk] at h
  · rintro l a W ⟨hl, u, rfl, hB, hF⟩ hr
    have hA := all_listed hacyc hl hr
    exact fin u W hB fun j hj => hF j hj (hA j (by omega))
  · rintro l a W i ⟨hl, u, rfl, hB, hF⟩ hi
    obtain ⟨h1, o, ho, hd⟩ := mem_ready.1 hi
    have hi' : i < n := by rw [← hn]; exact (Array.getElem?_eq_some_iff.1 ho).1
    unfold wpOp
    rw [ho]
    simp only
    rcases step i o u W hi' ho hB (fun j hj ⟨e, he, e1, hb⟩ => hF j hj (by rw [← e1]; exact hd e he hb)) with ⟨hw, h⟩ | ⟨hw, hds, hD, h⟩
    · rw [if_pos hw]
      refine .inl (Oper.wp_mono (fun a' W' h' => ?_) h)
      obtain ⟨v, rfl, hR, hv⟩ := h'
      exact ⟨by simpa using hl, _, rfl, Rtr _ _ _ hB hR, facts_put (dst := dst) (hinj i hi') hF (fun j _ _ _ t => hst j t W W' hR) hv⟩
    · rw [if_neg (by rw [hw]; simp)]
      refine ⟨by simpa using hl, upd u (dst i) undef, ?_, hB, facts_put (dst := dst) (hinj i hi') hF (fun j _ _ _ t ht => ht) h⟩
      rw [hds]
      exact ovr_put hD
/-- An operation with no guard is wanted. -/
theorem wanted_none {ops : Array Oper} {o : Oper} {t : Array Value} (h : o.guard = none) : Region.wanted o (yielded ops t) = true := by simp [Region.wanted, h]
/-- A guarded one is wanted where the slot of its guard holds what it asks for. -/
theorem wanted_some {ops : Array Oper} {o og : Oper} {D : Nat → Bool} {a0 : Act} {u : Nat → Value} {g d : Nat} {b c : Bool} (h : o.guard = some (g, b)) (hg : ops[g]? = some og) (hd : og.dst = some d) (hD : D d = true) (hs : d < a0.tmps.size) (hu : u d = .bool c) : Region.wanted o (yielded ops (ovr D a0 u).tmps) = (c == b) := by
  have hy : yielded ops (ovr D a0 u).tmps g = some c := by
    unfold yielded
    rw [hg]
    simp only [Option.bind_some, hd]
    rw [ovr_at D a0 u d hs, hD, if_pos rfl, hu]
  simp only [Region.wanted, h, hy]
  cases b <;> cases c <;> rfl
/-- .. and is not, where the guard itself was not. -/
theorem wanted_undef {ops : Array Oper} {o og : Oper} {D : Nat → Bool} {a0 : Act} {u : Nat → Value} {g d : Nat} {b : Bool} (h : o.guard = some (g, b)) (hg : ops[g]? = some og) (hd : og.dst = some d) (hD : D d = true) (hs : d < a0.tmps.size) (hu : u d = undef) : Region.wanted o (yielded ops (ovr D a0 u).tmps) = false := by
  have hy : yielded ops (ovr D a0 u).tmps g = none := by
    unfold yielded
    rw [hg]
    simp only [Option.bind_some, hd]
    rw [ovr_at D a0 u d hs, hD, if_pos rfl, hu]
    rfl
  simp only [Region.wanted, h, hy]
  cases b <;> rfl

/-- The same of a region that is run in the order of its text. -/
theorem wp_region_seq {P : Program} {id : Nat} {ops : Array Oper} {Q : Exit → Act → World → Prop} {a0 : Act} {w : World} (D : Nat → Bool) (R : World → World → Prop) (Rtr : ∀ a b c, R a b → R b c → R a c) (Rrf : R w w)
    (n : Nat) (hn : ops.size = n) (dst : Nat → Nat) (hinj : ∀ k, k < n → ∀ j, j < n → dst j = dst k → j = k)
    (F : Nat → Value → World → Prop) (hst : ∀ k t W W', R W W' → F k t W → F k t W')
    (step : ∀ k o u W, k < n → ops[k]? = some o → R w W → (∀ j, j < k → F j (u (dst j)) W) →
      (Region.wanted o (yielded ops (ovr D a0 u).tmps) = true ∧ o.wp P (ovr D a0 u) W (fun a' W' => ∃ v, a' = ovr D a0 (upd u (dst k) v) ∧ R W W' ∧ F k v W') Q) ∨
      (Region.wanted o (yielded ops (ovr D a0 u).tmps) = false ∧ o.dst = some (dst k) ∧ D (dst k) = true ∧ F k undef W))
    (fin : ∀ u W, R w W → (∀ j, j < n → F j (u (dst j)) W) → Q .normal (ovr D a0 u) W) :
    (Code.region id ops false).wp P Q a0 w := by
  have put : ∀ (k : Nat) (u : Nat → Value) (v : Value) (W W' : World), k < n → (∀ j, j < k → F j (u (dst j)) W) → (∀ j t, F j t W → F j t W') → F k v W' → ∀ j, j < k + 1 → F j (upd u (dst k) v (dst j)) W' := by
    intro k u v W W' hk hF hs hv j hj
    by_cases e : j = k
    · subst e
      simp only [upd, if_true]
      exact hv
    · have : ¬ dst j = dst k := fun e' => e (hinj k hk j (by omega) e')
      simp only [upd, this, if_false]
      exact hs j _ (hF j (by omega))
  have main : ∀ (l : List Oper) (k : Nat) (u : Nat → Value) (W : World), ops.toList.drop k = l → k ≤ n → R w W → (∀ j, j < k → F j (u (dst j)) W) → wpList P ops Q l (ovr D a0 u) W := by
    intro l
    induction l with
    | nil =>
      intro k u W hl hk hR hF
      have : n ≤ k := by
        have := congrArg List.length hl
        simp at this
        omega
      exact fin u W hR fun j hj => hF j (by omega)
    | cons o l ih =>
      intro k u W hl hk hR hF
      have hk' : k < n := by
        have := congrArg List.length hl
        simp at this
        omega
      have ho : ops[k]? = some o := by
        have h0 := congrArg (fun l => l[0]?) hl
        simpa using h0
      have hl' : ops.toList.drop (k + 1) = l := by
        have h0 := congrArg List.tail hl
        simpa using h0
      rcases step k o u W hk' ho hR hF with ⟨hw, h⟩ | ⟨hw, hds, hD, h⟩
      · show if _ then _ else _
        rw [if_pos hw]
        refine .inl (Oper.wp_mono (fun a' W' h' => ?_) h)
        obtain ⟨v, rfl, hR', hv⟩ := h'
        exact ih (k + 1) _ W' hl' hk' (Rtr _ _ _ hR hR') (put k u v W W' hk' hF (fun j t => hst j t W W' hR') hv)
      · show if _ then _ else _
        rw [if_neg (by rw [hw]; simp), hds, ovr_put hD]
        exact ih (k + 1) _ W hl' hk' hR (put k u undef W W hk' hF (fun _ _ h => h) h)
  refine wp_region_list ?_
  have := main ops.toList 0 (fun s => a0.tmps.getD s undef) w (by simp) (Nat.zero_le _) Rrf (fun j hj => by omega)
  rwa [ovr_self] at this
end Go.Proofs.YtmhbdmmpmagbkaaGreat.region
namespace Go.Proofs.YtmhbdmmpmagbkaaGreat.hp
open Go.RowKit rows heads words walks region
set_option maxRecDepth 100000
set_option linter.unusedVariables false
set_option linter.unusedSimpArgs false

def HasG (ops : Array Oper) (k : Nat) (d : Nat) (op : Op) (g : Option (Nat × Bool)) : Prop := ∃ o, ops[k]? = some o ∧ o.dst = some d ∧ o.op = op ∧ o.guard = g
theorem hasG_at {ops : Array Oper} {k d : Nat} {op : Op} {g : Option (Nat × Bool)} (h : HasG ops k d op g) {o : Oper} (ho : ops[k]? = some o) : o.dst = some d ∧ o.op = op ∧ o.guard = g := by
  obtain ⟨o', ho', h1, h2, h3⟩ := h
  rw [ho] at ho'
  injection ho' with ho'
  subst ho'
  exact ⟨h1, h2, h3⟩
theorem hasG_ex {ops : Array Oper} {k d : Nat} {op : Op} {g : Option (Nat × Bool)} (h : HasG ops k d op g) : ∃ o, ops[k]? = some o ∧ o.dst = some d := by
  obtain ⟨o, h0, h1, _⟩ := h
  exact ⟨o, h0, h1⟩
theorem ri9_ldi (b k : Nat) (w : World) {x : Int} (h : w.cell? ⟨b, k, none⟩ = some (.int .i64 x)) : (Instr.loadAt 2 (.pointer (some ⟨b, k, none⟩))).run Tryz.prog w = .ok (.int .i64 x) w := by
  go_simp
theorem ri9_lds (b k : Nat) (w : World) {a : Option Addr} {n c : Nat} (h : w.cell? ⟨b, k, none⟩ = some (.slice a n c)) : (Instr.loadAt 22 (.pointer (some ⟨b, k, none⟩))).run Tryz.prog w = .ok (.slice a n c) w := by
  go_simp
theorem ri9_f0 (b : Nat) (w : World) : (Instr.fieldAt 31 (.pointer (some ⟨b, 0, none⟩)) 0).run Tryz.prog w = .ok (.pointer (some ⟨b, 0, none⟩)) w := by
  go_simp
theorem ri9_f1 (b : Nat) (w : World) : (Instr.fieldAt 31 (.pointer (some ⟨b, 0, none⟩)) 1).run Tryz.prog w = .ok (.pointer (some ⟨b, 1, none⟩)) w := by
  go_simp
theorem ri9_f2 (b : Nat) (w : World) : (Instr.fieldAt 31 (.pointer (some ⟨b, 0, none⟩)) 2).run Tryz.prog w = .ok (.pointer (some ⟨b, 2, none⟩)) w := by
  go_simp
theorem ri9_f3 (b : Nat) (w : World) : (Instr.fieldAt 31 (.pointer (some ⟨b, 0, none⟩)) 3).run Tryz.prog w = .ok (.pointer (some ⟨b, 3, none⟩)) w := by
  go_simp
theorem ri9_f4 (b : Nat) (w : World) : (Instr.fieldAt 31 (.pointer (some ⟨b, 0, none⟩)) 4).run Tryz.prog w = .ok (.pointer (some ⟨b, 4, none⟩)) w := by
  go_simp
theorem ri9_f5 (b : Nat) (w : World) : (Instr.fieldAt 31 (.pointer (some ⟨b, 0, none⟩)) 5).run Tryz.prog w = .ok (.pointer (some ⟨b, 5, none⟩)) w := by
  go_simp
theorem ri9_f6 (b : Nat) (w : World) : (Instr.fieldAt 31 (.pointer (some ⟨b, 0, none⟩)) 6).run Tryz.prog w = .ok (.pointer (some ⟨b, 6, none⟩)) w := by
  go_simp
theorem ri9_f8 (b : Nat) (w : World) : (Instr.fieldAt 31 (.pointer (some ⟨b, 0, none⟩)) 8).run Tryz.prog w = .ok (.pointer (some ⟨b, 8, none⟩)) w := by
  go_simp
def dstH (k : Nat) : Nat := 14 + k
def DH (s : Nat) : Bool := decide (14 ≤ s) && decide (s ≤ 79)
def FH (B : Nat) (half old side top seed : Int) (rl ol ml c1 c2 c3 : Nat) (a1 a2 a3 : Option Addr) (p0 p1 p2 p3 p4 p5 p6 p7 p8 p9 : Bool) (k : Nat) (t : Value) : Prop :=
  match k with
  | 0 => t = (.pointer (some ⟨B, 0, none⟩))
  | 1 => t = (.int .i64 half)
  | 2 => t = (.bool (inR 8 200 half))
  | 3 => t = (.bool (!(inR 8 200 half)))
  | 4 => t = (.bool p0)
  | 5 => t = bif p0 then undef else (.pointer (some ⟨B, 1, none⟩))
  | 6 => t = bif p0 then undef else (.int .i64 old)
  | 7 => t = bif p0 then undef else (.bool (inR 8 400 old))
  | 8 => t = bif p0 then undef else (.bool (!(inR 8 400 old)))
  | 9 => t = (.bool p1)
  | 10 => t = (.bool p1)
  | 11 => t = bif p1 then undef else (.pointer (some ⟨B, 0, none⟩))
  | 12 => t = bif p1 then undef else (.int .i64 half)
  | 13 => t = bif p1 then undef else (.int .i64 (half % 2))
  | 14 => t = bif p1 then undef else (.bool ((half % 2) != 0))
  | 15 => t = (.bool p2)
  | 16 => t = (.bool p2)
  | 17 => t = bif p2 then undef else (.pointer (some ⟨B, 1, none⟩))
  | 18 => t = bif p2 then undef else (.int .i64 old)
  | 19 => t = bif p2 then undef else (.int .i64 (old % 2))
  | 20 => t = bif p2 then undef else (.bool ((old % 2) != 0))
  | 21 => t = (.bool p3)
  | 22 => t = (.bool p3)
  | 23 => t = bif p3 then undef else (.pointer (some ⟨B, 2, none⟩))
  | 24 => t = bif p3 then undef else (.slice a1 rl c1)
  | 25 => t = bif p3 then undef else (.int .i64 (rl : Int))
  | 26 => t = bif p3 then undef else (.pointer (some ⟨B, 0, none⟩))
  | 27 => t = bif p3 then undef else (.int .i64 half)
  | 28 => t = bif p3 then undef else (.int .i64 (2 * half))
  | 29 => t = bif p3 then undef else (.pointer (some ⟨B, 1, none⟩))
  | 30 => t = bif p3 then undef else (.int .i64 old)
  | 31 => t = bif p3 then undef else (.int .i64 ((2 * half) + old))
  | 32 => t = bif p3 then undef else (.bool ((rl : Int) != ((2 * half) + old)))
  | 33 => t = (.bool p4)
  | 34 => t = (.bool p4)
  | 35 => t = bif p4 then undef else (.pointer (some ⟨B, 3, none⟩))
  | 36 => t = bif p4 then undef else (.int .i64 side)
  | 37 => t = bif p4 then undef else (.bool (inR 0 1 side))
  | 38 => t = bif p4 then undef else (.bool (!(inR 0 1 side)))
  | 39 => t = (.bool p5)
  | 40 => t = (.bool p5)
  | 41 => t = bif p5 then undef else (.pointer (some ⟨B, 4, none⟩))
  | 42 => t = bif p5 then undef else (.int .i64 top)
  | 43 => t = bif p5 then undef else (.pointer (some ⟨B, 0, none⟩))
  | 44 => t = bif p5 then undef else (.int .i64 half)
  | 45 => t = bif p5 then undef else (.bool (inR 0 half top))
  | 46 => t = bif p5 then undef else (.bool (!(inR 0 half top)))
  | 47 => t = (.bool p6)
  | 48 => t = (.bool p6)
  | 49 => t = bif p6 then undef else (.pointer (some ⟨B, 5, none⟩))
  | 50 => t = bif p6 then undef else (.slice a2 ol c2)
  | 51 => t = bif p6 then undef else (.int .i64 (ol : Int))
  | 52 => t = bif p6 then undef else (.bool ((ol : Int) != 6))
  | 53 => t = (.bool p7)
  | 54 => t = (.bool p7)
  | 55 => t = bif p7 then undef else (.pointer (some ⟨B, 6, none⟩))
  | 56 => t = bif p7 then undef else (.slice a3 ml c3)
  | 57 => t = bif p7 then undef else (.int .i64 (ml : Int))
  | 58 => t = bif p7 then undef else (.bool (decide (40 < (ml : Int))))
  | 59 => t = (.bool p8)
  | 60 => t = (.bool p8)
  | 61 => t = bif p8 then undef else (.pointer (some ⟨B, 8, none⟩))
  | 62 => t = bif p8 then undef else (.int .i64 seed)
  | 63 => t = bif p8 then undef else (.bool (inR 0 65535 seed))
  | 64 => t = bif p8 then undef else (.bool (!(inR 0 65535 seed)))
  | 65 => t = (.bool p9)
  | _ => False

set_option maxHeartbeats 8000000 in
theorem regHead {id : Nat} {ops : Array Oper} {a0 : Act} {Q : Exit → Act → World → Prop} {w : World} {B : Nat} {half old side top seed : Int} {rl ol ml c1 c2 c3 : Nat} {a1 a2 a3 : Option Addr} {p0 p1 p2 p3 p4 p5 p6 p7 p8 p9 : Bool} (hn : ops.size = 66)
    (h0 : HasG ops 0 14 (.fieldAddr 31 (.tmp 1) 0) (none))
    (h1 : HasG ops 1 15 (.load 2 (.tmp 14)) (none))
    (h2 : HasG ops 2 16 (.call { callee := .value (.func 88), args := #[.tmp 15, .const (.int .i64 8), .const (.int .i64 200)], argTypes := #[2, 2, 2] }) (none))
    (h3 : HasG ops 3 17 (.unOp .not 4 (.tmp 16)) (none))
    (h4 : HasG ops 4 18 (.move (.tmp 17)) (none))
    (h5 : HasG ops 5 19 (.fieldAddr 31 (.tmp 1) 1) (some (4, false)))
    (h6 : HasG ops 6 20 (.load 2 (.tmp 19)) (some (4, false)))
    (h7 : HasG ops 7 21 (.call { callee := .value (.func 88), args := #[.tmp 20, .const (.int .i64 8), .const (.int .i64 400)], argTypes := #[2, 2, 2] }) (some (4, false)))
    (h8 : HasG ops 8 22 (.unOp .not 4 (.tmp 21)) (some (4, false)))
    (h9 : HasG ops 9 23 (.pick (.tmp 18) (.const (.bool true)) (.tmp 22)) (none))
    (h10 : HasG ops 10 24 (.move (.tmp 23)) (none))
    (h11 : HasG ops 11 25 (.fieldAddr 31 (.tmp 1) 0) (some (10, false)))
    (h12 : HasG ops 12 26 (.load 2 (.tmp 25)) (some (10, false)))
    (h13 : HasG ops 13 27 (.binOp .rem 2 (.tmp 26) (.const (.int .i64 2)) 2) (some (10, false)))
    (h14 : HasG ops 14 28 (.binOp .neq 2 (.tmp 27) (.const (.int .i64 0)) 2) (some (10, false)))
    (h15 : HasG ops 15 29 (.pick (.tmp 24) (.const (.bool true)) (.tmp 28)) (none))
    (h16 : HasG ops 16 30 (.move (.tmp 29)) (none))
    (h17 : HasG ops 17 31 (.fieldAddr 31 (.tmp 1) 1) (some (16, false)))
    (h18 : HasG ops 18 32 (.load 2 (.tmp 31)) (some (16, false)))
    (h19 : HasG ops 19 33 (.binOp .rem 2 (.tmp 32) (.const (.int .i64 2)) 2) (some (16, false)))
    (h20 : HasG ops 20 34 (.binOp .neq 2 (.tmp 33) (.const (.int .i64 0)) 2) (some (16, false)))
    (h21 : HasG ops 21 35 (.pick (.tmp 30) (.const (.bool true)) (.tmp 34)) (none))
    (h22 : HasG ops 22 36 (.move (.tmp 35)) (none))
    (h23 : HasG ops 23 37 (.fieldAddr 31 (.tmp 1) 2) (some (22, false)))
    (h24 : HasG ops 24 38 (.load 22 (.tmp 37)) (some (22, false)))
    (h25 : HasG ops 25 39 (.call { callee := .builtin .len, args := #[.tmp 38], argTypes := #[22] }) (some (22, false)))
    (h26 : HasG ops 26 40 (.fieldAddr 31 (.tmp 1) 0) (some (22, false)))
    (h27 : HasG ops 27 41 (.load 2 (.tmp 40)) (some (22, false)))
    (h28 : HasG ops 28 42 (.binOp .mul 2 (.const (.int .i64 2)) (.tmp 41) 2) (some (22, false)))
    (h29 : HasG ops 29 43 (.fieldAddr 31 (.tmp 1) 1) (some (22, false)))
    (h30 : HasG ops 30 44 (.load 2 (.tmp 43)) (some (22, false)))
    (h31 : HasG ops 31 45 (.binOp .add 2 (.tmp 42) (.tmp 44) 2) (some (22, false)))
    (h32 : HasG ops 32 46 (.binOp .neq 2 (.tmp 39) (.tmp 45) 2) (some (22, false)))
    (h33 : HasG ops 33 47 (.pick (.tmp 36) (.const (.bool true)) (.tmp 46)) (none))
    (h34 : HasG ops 34 48 (.move (.tmp 47)) (none))
    (h35 : HasG ops 35 49 (.fieldAddr 31 (.tmp 1) 3) (some (34, false)))
    (h36 : HasG ops 36 50 (.load 2 (.tmp 49)) (some (34, false)))
    (h37 : HasG ops 37 51 (.call { callee := .value (.func 88), args := #[.tmp 50, .const (.int .i64 0), .const (.int .i64 1)], argTypes := #[2, 2, 2] }) (some (34, false)))
    (h38 : HasG ops 38 52 (.unOp .not 4 (.tmp 51)) (some (34, false)))
    (h39 : HasG ops 39 53 (.pick (.tmp 48) (.const (.bool true)) (.tmp 52)) (none))
    (h40 : HasG ops 40 54 (.move (.tmp 53)) (none))
    (h41 : HasG ops 41 55 (.fieldAddr 31 (.tmp 1) 4) (some (40, false)))
    (h42 : HasG ops 42 56 (.load 2 (.tmp 55)) (some (40, false)))
    (h43 : HasG ops 43 57 (.fieldAddr 31 (.tmp 1) 0) (some (40, false)))
    (h44 : HasG ops 44 58 (.load 2 (.tmp 57)) (some (40, false)))
    (h45 : HasG ops 45 59 (.call { callee := .value (.func 88), args := #[.tmp 56, .const (.int .i64 0), .tmp 58], argTypes := #[2, 2, 2] }) (some (40, false)))
    (h46 : HasG ops 46 60 (.unOp .not 4 (.tmp 59)) (some (40, false)))
    (h47 : HasG ops 47 61 (.pick (.tmp 54) (.const (.bool true)) (.tmp 60)) (none))
    (h48 : HasG ops 48 62 (.move (.tmp 61)) (none))
    (h49 : HasG ops 49 63 (.fieldAddr 31 (.tmp 1) 5) (some (48, false)))
    (h50 : HasG ops 50 64 (.load 22 (.tmp 63)) (some (48, false)))
    (h51 : HasG ops 51 65 (.call { callee := .builtin .len, args := #[.tmp 64], argTypes := #[22] }) (some (48, false)))
    (h52 : HasG ops 52 66 (.binOp .neq 3 (.tmp 65) (.const (.int .i64 6)) 3) (some (48, false)))
    (h53 : HasG ops 53 67 (.pick (.tmp 62) (.const (.bool true)) (.tmp 66)) (none))
    (h54 : HasG ops 54 68 (.move (.tmp 67)) (none))
    (h55 : HasG ops 55 69 (.fieldAddr 31 (.tmp 1) 6) (some (54, false)))
    (h56 : HasG ops 56 70 (.load 22 (.tmp 69)) (some (54, false)))
    (h57 : HasG ops 57 71 (.call { callee := .builtin .len, args := #[.tmp 70], argTypes := #[22] }) (some (54, false)))
    (h58 : HasG ops 58 72 (.binOp .gtr 3 (.tmp 71) (.const (.int .i64 40)) 3) (some (54, false)))
    (h59 : HasG ops 59 73 (.pick (.tmp 68) (.const (.bool true)) (.tmp 72)) (none))
    (h60 : HasG ops 60 74 (.move (.tmp 73)) (none))
    (h61 : HasG ops 61 75 (.fieldAddr 31 (.tmp 1) 8) (some (60, false)))
    (h62 : HasG ops 62 76 (.load 2 (.tmp 75)) (some (60, false)))
    (h63 : HasG ops 63 77 (.call { callee := .value (.func 88), args := #[.tmp 76, .const (.int .i64 0), .const (.int .i64 65535)], argTypes := #[2, 2, 2] }) (some (60, false)))
    (h64 : HasG ops 64 78 (.unOp .not 4 (.tmp 77)) (some (60, false)))
    (h65 : HasG ops 65 79 (.pick (.tmp 74) (.const (.bool true)) (.tmp 78)) (none))
    (sz : 79 < a0.tmps.size) (e1 : a0.tmps.getD 1 undef = .pointer (some ⟨B, 0, none⟩))
    (z0 : w.cell? ⟨B, 0, none⟩ = some (.int .i64 half)) (z1 : w.cell? ⟨B, 1, none⟩ = some (.int .i64 old)) (z2 : w.cell? ⟨B, 2, none⟩ = some (.slice a1 rl c1)) (z3 : w.cell? ⟨B, 3, none⟩ = some (.int .i64 side)) (z4 : w.cell? ⟨B, 4, none⟩ = some (.int .i64 top)) (z5 : w.cell? ⟨B, 5, none⟩ = some (.slice a2 ol c2)) (z6 : w.cell? ⟨B, 6, none⟩ = some (.slice a3 ml c3)) (z8 : w.cell? ⟨B, 8, none⟩ = some (.int .i64 seed))
    (q0 : p0 = !inR 8 200 half) (q1 : p1 = (p0 || !inR 8 400 old)) (q2 : p2 = (p1 || (half % 2 != 0))) (q3 : p3 = (p2 || (old % 2 != 0))) (q4 : p4 = (p3 || ((rl : Int) != 2 * half + old))) (q5 : p5 = (p4 || !inR 0 1 side)) (q6 : p6 = (p5 || !inR 0 half top)) (q7 : p7 = (p6 || ((ol : Int) != 6))) (q8 : p8 = (p7 || decide (40 < (ml : Int)))) (q9 : p9 = (p8 || !inR 0 65535 seed))
    (fin : ∀ u, u 79 = .bool p9 → Q .normal (ovr DH a0 u) w) :
    (Code.region id ops false).wp Tryz.prog Q a0 w := by
  have bnd : p1 = false → 8 ≤ half ∧ half ≤ 200 ∧ 8 ≤ old ∧ old ≤ 400 := fun h => by
    rw [q1, q0] at h
    simp [inR] at h
    omega
  have chain2 : p2 = false → p1 = false := fun h => by rw [q2] at h; simp at h; exact h.1
  have chain3 : p3 = false → p1 = false := fun h => by rw [q3] at h; simp at h; exact chain2 h.1
  have chain4 : p4 = false → p1 = false := fun h => by rw [q4] at h; simp at h; exact chain3 h.1
  have chain5 : p5 = false → p1 = false := fun h => by rw [q5] at h; simp at h; exact chain4 h.1
  have chain6 : p6 = false → p1 = false := fun h => by rw [q6] at h; simp at h; exact chain5 h.1
  have chain7 : p7 = false → p1 = false := fun h => by rw [q7] at h; simp at h; exact chain6 h.1
  have chain8 : p8 = false → p1 = false := fun h => by rw [q8] at h; simp at h; exact chain7 h.1
  refine wp_region_seq DH (fun W W' => W' = W) (fun a b c h k => k.trans h) rfl 66 hn dstH (fun k hk j hj e => by unfold dstH at e; omega) (fun k t _ => FH B half old side top seed rl ol ml c1 c2 c3 a1 a2 a3 p0 p1 p2 p3 p4 p5 p6 p7 p8 p9 k t) (fun _ _ _ _ _ h => h) ?_ ?_
  · intro k o u W hk ho hR hF
    obtain rfl : W = w := hR
    have ev : ∀ s, DH s = true → s < 80 → (ovr DH a0 u).eval (.tmp s) = u s := fun s h1 h2 => eval_in h1 (by omega)
    have x1 := (eval_out (D := DH) (a0 := a0) (u := u) (s := 1) rfl (by omega)).trans e1
    have hF : ∀ j, j < k → FH B half old side top seed rl ol ml c1 c2 c3 a1 a2 a3 p0 p1 p2 p3 p4 p5 p6 p7 p8 p9 j (u (14 + j)) := hF
    rcases (show k = 0 ∨ k = 1 ∨ k = 2 ∨ k = 3 ∨ k = 4 ∨ k = 5 ∨ k = 6 ∨ k = 7 ∨ k = 8 ∨ k = 9 ∨ k = 10 ∨ k = 11 ∨ k = 12 ∨ k = 13 ∨ k = 14 ∨ k = 15 ∨ k = 16 ∨ k = 17 ∨ k = 18 ∨ k = 19 ∨ k = 20 ∨ k = 21 ∨ k = 22 ∨ k = 23 ∨ k = 24 ∨ k = 25 ∨ k = 26 ∨ k = 27 ∨ k = 28 ∨ k = 29 ∨ k = 30 ∨ k = 31 ∨ k = 32 ∨ k = 33 ∨ k = 34 ∨ k = 35 ∨ k = 36 ∨ k = 37 ∨ k = 38 ∨ k = 39 ∨ k = 40 ∨ k = 41 ∨ k = 42 ∨ k = 43 ∨ k = 44 ∨ k = 45 ∨ k = 46 ∨ k = 47 ∨ k = 48 ∨ k = 49 ∨ k = 50 ∨ k = 51 ∨ k = 52 ∨ k = 53 ∨ k = 54 ∨ k = 55 ∨ k = 56 ∨ k = 57 ∨ k = 58 ∨ k = 59 ∨ k = 60 ∨ k = 61 ∨ k = 62 ∨ k = 63 ∨ k = 64 ∨ k = 65 by omega) with rfl | rfl | rfl | rfl | rfl | rfl | rfl | rfl | rfl | rfl | rfl | rfl | rfl | rfl | rfl | rfl | rfl | rfl | rfl | rfl | rfl | rfl | rfl | rfl | rfl | rfl | rfl | rfl | rfl | rfl | rfl | rfl | rfl | rfl | rfl | rfl | rfl | rfl | rfl | rfl | rfl | rfl | rfl | rfl | rfl | rfl | rfl | rfl | rfl | rfl | rfl | rfl | rfl | rfl | rfl | rfl | rfl | rfl | rfl | rfl | rfl | rfl | rfl | rfl | rfl | rfl
    · obtain ⟨hd, op, hgd⟩ := hasG_at h0 ho
      exact .inl ⟨wanted_none hgd, wp_value (v := .pointer (some ⟨B, 0, none⟩)) (w' := W) (by simp only [execOp, op, x1]; simp [ri9_f0, go_sem, Result.andThen]) ⟨_, put_in hd rfl u _, rfl, by rfl⟩⟩
    · obtain ⟨hd, op, hgd⟩ := hasG_at h1 ho
      have y0 := (ev 14 rfl (by omega)).trans (hF 0 (by omega))
      exact .inl ⟨wanted_none hgd, wp_value (v := .int .i64 half) (w' := W) (by simp only [execOp, op, y0]; simp [z0, go_sem, Result.andThen]) ⟨_, put_in hd rfl u _, rfl, by rfl⟩⟩
    · obtain ⟨hd, op, hgd⟩ := hasG_at h2 ho
      have y0 := (ev 15 rfl (by omega)).trans (hF 1 (by omega))
      exact .inl ⟨wanted_none hgd, wp_call (f := 88) (args := #[.int .i64 half, .int .i64 8, .int .i64 200]) (by simp only [execOp, op]; go_simp; exact (getD_at _ _).symm.trans y0) ((heads.l1In_any half 8 200 W).mono (by rintro e w' ⟨rfl, rfl⟩; exact ⟨_, rfl, _, put_in hd rfl u _, rfl, by rfl⟩))⟩
    · obtain ⟨hd, op, hgd⟩ := hasG_at h3 ho
      have y0 := (ev 16 rfl (by omega)).trans (hF 2 (by omega))
      exact .inl ⟨wanted_none hgd, wp_value (v := .bool (!(inR 8 200 half))) (w' := W) (by simp only [execOp, op, y0]; simp [go_sem, Result.andThen]) ⟨_, put_in hd rfl u _, rfl, by rfl⟩⟩
    · obtain ⟨hd, op, hgd⟩ := hasG_at h4 ho
      have y0 := (ev 17 rfl (by omega)).trans (hF 3 (by omega))
      rw [← q0] at y0
      exact .inl ⟨wanted_none hgd, wp_value (v := .bool p0) (w' := W) (by simp only [execOp, op, y0]; simp [go_sem, Result.andThen]) ⟨_, put_in hd rfl u _, rfl, by rfl⟩⟩
    · obtain ⟨hd, op, hgd⟩ := hasG_at h5 ho
      obtain ⟨og, hog, hogd⟩ := hasG_ex h4
      have WG := fun (hgd : o.guard = some (4, false)) => wanted_some (D := DH) (a0 := a0) (u := u) hgd hog hogd rfl (by omega) (hF 4 (by omega))
      cases hp : p0
      · skip
        exact .inl ⟨(WG hgd).trans (by rw [hp]; rfl), wp_value (v := .pointer (some ⟨B, 1, none⟩)) (w' := W) (by simp only [execOp, op, x1]; simp [ri9_f1, go_sem, Result.andThen]) ⟨_, put_in hd rfl u _, rfl, by rfl⟩⟩
      · exact .inr ⟨(WG hgd).trans (by rw [hp]; rfl), hd, rfl, by rfl⟩
    · obtain ⟨hd, op, hgd⟩ := hasG_at h6 ho
      have y0 := (ev 19 rfl (by omega)).trans (hF 5 (by omega))
      obtain ⟨og, hog, hogd⟩ := hasG_ex h4
      have WG := fun (hgd : o.guard = some (4, false)) => wanted_some (D := DH) (a0 := a0) (u := u) hgd hog hogd rfl (by omega) (hF 4 (by omega))
      cases hp : p0
      · skip
        rw [hp, cond_false] at y0
        exact .inl ⟨(WG hgd).trans (by rw [hp]; rfl), wp_value (v := .int .i64 old) (w' := W) (by simp only [execOp, op, y0]; simp [z1, go_sem, Result.andThen]) ⟨_, put_in hd rfl u _, rfl, by rfl⟩⟩
      · exact .inr ⟨(WG hgd).trans (by rw [hp]; rfl), hd, rfl, by rfl⟩
    · obtain ⟨hd, op, hgd⟩ := hasG_at h7 ho
      have y0 := (ev 20 rfl (by omega)).trans (hF 6 (by omega))
      obtain ⟨og, hog, hogd⟩ := hasG_ex h4
      have WG := fun (hgd : o.guard = some (4, false)) => wanted_some (D := DH) (a0 := a0) (u := u) hgd hog hogd rfl (by omega) (hF 4 (by omega))
      cases hp : p0
      · skip
        rw [hp, cond_false] at y0
        exact .inl ⟨(WG hgd).trans (by rw [hp]; rfl), wp_call (f := 88) (args := #[.int .i64 old, .int .i64 8, .int .i64 400]) (by simp only [execOp, op]; go_simp; exact (getD_at _ _).symm.trans y0) ((heads.l1In_any old 8 400 W).mono (by rintro e w' ⟨rfl, rfl⟩; exact ⟨_, rfl, _, put_in hd rfl u _, rfl, by rfl⟩))⟩
      · exact .inr ⟨(WG hgd).trans (by rw [hp]; rfl), hd, rfl, by rfl⟩
    · obtain ⟨hd, op, hgd⟩ := hasG_at h8 ho
      have y0 := (ev 21 rfl (by omega)).trans (hF 7 (by omega))
      obtain ⟨og, hog, hogd⟩ := hasG_ex h4
      have WG := fun (hgd : o.guard = some (4, false)) => wanted_some (D := DH) (a0 := a0) (u := u) hgd hog hogd rfl (by omega) (hF 4 (by omega))
      cases hp : p0
      · skip
        rw [hp, cond_false] at y0
        exact .inl ⟨(WG hgd).trans (by rw [hp]; rfl), wp_value (v := .bool (!(inR 8 400 old))) (w' := W) (by simp only [execOp, op, y0]; simp [go_sem, Result.andThen]) ⟨_, put_in hd rfl u _, rfl, by rfl⟩⟩
      · exact .inr ⟨(WG hgd).trans (by rw [hp]; rfl), hd, rfl, by rfl⟩
    · obtain ⟨hd, op, hgd⟩ := hasG_at h9 ho
      have y0 := (ev 18 rfl (by omega)).trans (hF 4 (by omega))
      have y1 := (ev 22 rfl (by omega)).trans (hF 8 (by omega))
      exact .inl ⟨wanted_none hgd, wp_value (v := .bool p1) (w' := W) (by rw [q1]; cases hh : p0 <;> rw [hh] at y0 y1 <;> simp only [execOp, op, y0, y1] <;> simp [go_sem, Result.andThen]) ⟨_, put_in hd rfl u _, rfl, rfl⟩⟩
    · obtain ⟨hd, op, hgd⟩ := hasG_at h10 ho
      have y0 := (ev 23 rfl (by omega)).trans (hF 9 (by omega))
      exact .inl ⟨wanted_none hgd, wp_value (v := .bool p1) (w' := W) (by simp only [execOp, op, y0]; simp [go_sem, Result.andThen]) ⟨_, put_in hd rfl u _, rfl, by rfl⟩⟩
    · obtain ⟨hd, op, hgd⟩ := hasG_at h11 ho
      obtain ⟨og, hog, hogd⟩ := hasG_ex h10
      have WG := fun (hgd : o.guard = some (10, false)) => wanted_some (D := DH) (a0 := a0) (u := u) hgd hog hogd rfl (by omega) (hF 10 (by omega))
      cases hp : p1
      · skip
        exact .inl ⟨(WG hgd).trans (by rw [hp]; rfl), wp_value (v := .pointer (some ⟨B, 0, none⟩)) (w' := W) (by simp only [execOp, op, x1]; simp [ri9_f0, go_sem, Result.andThen]) ⟨_, put_in hd rfl u _, rfl, by rfl⟩⟩
      · exact .inr ⟨(WG hgd).trans (by rw [hp]; rfl), hd, rfl, by rfl⟩
    · obtain ⟨hd, op, hgd⟩ := hasG_at h12 ho
      have y0 := (ev 25 rfl (by omega)).trans (hF 11 (by omega))
      obtain ⟨og, hog, hogd⟩ := hasG_ex h10
      have WG := fun (hgd : o.guard = some (10, false)) => wanted_some (D := DH) (a0 := a0) (u := u) hgd hog hogd rfl (by omega) (hF 10 (by omega))
      cases hp : p1
      · skip
        rw [hp, cond_false] at y0
        exact .inl ⟨(WG hgd).trans (by rw [hp]; rfl), wp_value (v := .int .i64 half) (w' := W) (by simp only [execOp, op, y0]; simp [z0, go_sem, Result.andThen]) ⟨_, put_in hd rfl u _, rfl, by rfl⟩⟩
      · exact .inr ⟨(WG hgd).trans (by rw [hp]; rfl), hd, rfl, by rfl⟩
    · obtain ⟨hd, op, hgd⟩ := hasG_at h13 ho
      have y0 := (ev 26 rfl (by omega)).trans (hF 12 (by omega))
      obtain ⟨og, hog, hogd⟩ := hasG_ex h10
      have WG := fun (hgd : o.guard = some (10, false)) => wanted_some (D := DH) (a0 := a0) (u := u) hgd hog hogd rfl (by omega) (hF 10 (by omega))
      cases hp : p1
      · have hp0 : p1 = false := by exact hp
        rw [hp, cond_false] at y0
        exact .inl ⟨(WG hgd).trans (by rw [hp]; rfl), wp_value (v := .int .i64 (half % 2)) (w' := W) (by have bb := bnd hp0; simp only [execOp, op, y0]; simp [go_sem, Result.andThen]; exact Int.tmod_eq_emod_of_nonneg (by omega)) ⟨_, put_in hd rfl u _, rfl, by rfl⟩⟩
      · exact .inr ⟨(WG hgd).trans (by rw [hp]; rfl), hd, rfl, by rfl⟩
    · obtain ⟨hd, op, hgd⟩ := hasG_at h14 ho
      have y0 := (ev 27 rfl (by omega)).trans (hF 13 (by omega))
      obtain ⟨og, hog, hogd⟩ := hasG_ex h10
      have WG := fun (hgd : o.guard = some (10, false)) => wanted_some (D := DH) (a0 := a0) (u := u) hgd hog hogd rfl (by omega) (hF 10 (by omega))
      cases hp : p1
      · have hp0 : p1 = false := by exact hp
        rw [hp, cond_false] at y0
        exact .inl ⟨(WG hgd).trans (by rw [hp]; rfl), wp_value (v := .bool ((half % 2) != 0)) (w' := W) (by have bb := bnd hp0; simp only [execOp, op, y0]; simp [go_sem, Result.andThen]) ⟨_, put_in hd rfl u _, rfl, by rfl⟩⟩
      · exact .inr ⟨(WG hgd).trans (by rw [hp]; rfl), hd, rfl, by rfl⟩
    · obtain ⟨hd, op, hgd⟩ := hasG_at h15 ho
      have y0 := (ev 24 rfl (by omega)).trans (hF 10 (by omega))
      have y1 := (ev 28 rfl (by omega)).trans (hF 14 (by omega))
      exact .inl ⟨wanted_none hgd, wp_value (v := .bool p2) (w' := W) (by rw [q2]; cases hh : p1 <;> rw [hh] at y0 y1 <;> simp only [execOp, op, y0, y1] <;> simp [go_sem, Result.andThen]) ⟨_, put_in hd rfl u _, rfl, rfl⟩⟩
    · obtain ⟨hd, op, hgd⟩ := hasG_at h16 ho
      have y0 := (ev 29 rfl (by omega)).trans (hF 15 (by omega))
      exact .inl ⟨wanted_none hgd, wp_value (v := .bool p2) (w' := W) (by simp only [execOp, op, y0]; simp [go_sem, Result.andThen]) ⟨_, put_in hd rfl u _, rfl, by rfl⟩⟩
    · obtain ⟨hd, op, hgd⟩ := hasG_at h17 ho
      obtain ⟨og, hog, hogd⟩ := hasG_ex h16
      have WG := fun (hgd : o.guard = some (16, false)) => wanted_some (D := DH) (a0 := a0) (u := u) hgd hog hogd rfl (by omega) (hF 16 (by omega))
      cases hp : p2
      · skip
        exact .inl ⟨(WG hgd).trans (by rw [hp]; rfl), wp_value (v := .pointer (some ⟨B, 1, none⟩)) (w' := W) (by simp only [execOp, op, x1]; simp [ri9_f1, go_sem, Result.andThen]) ⟨_, put_in hd rfl u _, rfl, by rfl⟩⟩
      · exact .inr ⟨(WG hgd).trans (by rw [hp]; rfl), hd, rfl, by rfl⟩
    · obtain ⟨hd, op, hgd⟩ := hasG_at h18 ho
      have y0 := (ev 31 rfl (by omega)).trans (hF 17 (by omega))
      obtain ⟨og, hog, hogd⟩ := hasG_ex h16
      have WG := fun (hgd : o.guard = some (16, false)) => wanted_some (D := DH) (a0 := a0) (u := u) hgd hog hogd rfl (by omega) (hF 16 (by omega))
      cases hp : p2
      · skip
        rw [hp, cond_false] at y0
        exact .inl ⟨(WG hgd).trans (by rw [hp]; rfl), wp_value (v := .int .i64 old) (w' := W) (by simp only [execOp, op, y0]; simp [z1, go_sem, Result.andThen]) ⟨_, put_in hd rfl u _, rfl, by rfl⟩⟩
      · exact .inr ⟨(WG hgd).trans (by rw [hp]; rfl), hd, rfl, by rfl⟩
    · obtain ⟨hd, op, hgd⟩ := hasG_at h19 ho
      have y0 := (ev 32 rfl (by omega)).trans (hF 18 (by omega))
      obtain ⟨og, hog, hogd⟩ := hasG_ex h16
      have WG := fun (hgd : o.guard = some (16, false)) => wanted_some (D := DH) (a0 := a0) (u := u) hgd hog hogd rfl (by omega) (hF 16 (by omega))
      cases hp : p2
      · have hp0 : p1 = false := by exact chain2 hp
        rw [hp, cond_false] at y0
        exact .inl ⟨(WG hgd).trans (by rw [hp]; rfl), wp_value (v := .int .i64 (old % 2)) (w' := W) (by have bb := bnd hp0; simp only [execOp, op, y0]; simp [go_sem, Result.andThen]; exact Int.tmod_eq_emod_of_nonneg (by omega)) ⟨_, put_in hd rfl u _, rfl, by rfl⟩⟩
      · exact .inr ⟨(WG hgd).trans (by rw [hp]; rfl), hd, rfl, by rfl⟩
    · obtain ⟨hd, op, hgd⟩ := hasG_at h20 ho
      have y0 := (ev 33 rfl (by omega)).trans (hF 19 (by omega))
      obtain ⟨og, hog, hogd⟩ := hasG_ex h16
      have WG := fun (hgd : o.guard = some (16, false)) => wanted_some (D := DH) (a0 := a0) (u := u) hgd hog hogd rfl (by omega) (hF 16 (by omega))
      cases hp : p2
      · have hp0 : p1 = false := by exact chain2 hp
        rw [hp, cond_false] at y0
        exact .inl ⟨(WG hgd).trans (by rw [hp]; rfl), wp_value (v := .bool ((old % 2) != 0)) (w' := W) (by have bb := bnd hp0; simp only [execOp, op, y0]; simp [go_sem, Result.andThen]) ⟨_, put_in hd rfl u _, rfl, by rfl⟩⟩
      · exact .inr ⟨(WG hgd).trans (by rw [hp]; rfl), hd, rfl, by rfl⟩
    · obtain ⟨hd, op, hgd⟩ := hasG_at h21 ho
      have y0 := (ev 30 rfl (by omega)).trans (hF 16 (by omega))
      have y1 := (ev 34 rfl (by omega)).trans (hF 20 (by omega))
      exact .inl ⟨wanted_none hgd, wp_value (v := .bool p3) (w' := W) (by rw [q3]; cases hh : p2 <;> rw [hh] at y0 y1 <;> simp only [execOp, op, y0, y1] <;> simp [go_sem, Result.andThen]) ⟨_, put_in hd rfl u _, rfl, rfl⟩⟩
    · obtain ⟨hd, op, hgd⟩ := hasG_at h22 ho
      have y0 := (ev 35 rfl (by omega)).trans (hF 21 (by omega))
      exact .inl ⟨wanted_none hgd, wp_value (v := .bool p3) (w' := W) (by simp only [execOp, op, y0]; simp [go_sem, Result.andThen]) ⟨_, put_in hd rfl u _, rfl, by rfl⟩⟩
    · obtain ⟨hd, op, hgd⟩ := hasG_at h23 ho
      obtain ⟨og, hog, hogd⟩ := hasG_ex h22
      have WG := fun (hgd : o.guard = some (22, false)) => wanted_some (D := DH) (a0 := a0) (u := u) hgd hog hogd rfl (by omega) (hF 22 (by omega))
      cases hp : p3
      · skip
        exact .inl ⟨(WG hgd).trans (by rw [hp]; rfl), wp_value (v := .pointer (some ⟨B, 2, none⟩)) (w' := W) (by simp only [execOp, op, x1]; simp [ri9_f2, go_sem, Result.andThen]) ⟨_, put_in hd rfl u _, rfl, by rfl⟩⟩
      · exact .inr ⟨(WG hgd).trans (by rw [hp]; rfl), hd, rfl, by rfl⟩
    · obtain ⟨hd, op, hgd⟩ := hasG_at h24 ho
      have y0 := (ev 37 rfl (by omega)).trans (hF 23 (by omega))
      obtain ⟨og, hog, hogd⟩ := hasG_ex h22
      have WG := fun (hgd : o.guard = some (22, false)) => wanted_some (D := DH) (a0 := a0) (u := u) hgd hog hogd rfl (by omega) (hF 22 (by omega))
      cases hp : p3
      · skip
        rw [hp, cond_false] at y0
        exact .inl ⟨(WG hgd).trans (by rw [hp]; rfl), wp_value (v := .slice a1 rl c1) (w' := W) (by simp only [execOp, op, y0]; simp [z2, go_sem, Result.andThen]) ⟨_, put_in hd rfl u _, rfl, by rfl⟩⟩
      · exact .inr ⟨(WG hgd).trans (by rw [hp]; rfl), hd, rfl, by rfl⟩
    · obtain ⟨hd, op, hgd⟩ := hasG_at h25 ho
      have y0 := (ev 38 rfl (by omega)).trans (hF 24 (by omega))
      obtain ⟨og, hog, hogd⟩ := hasG_ex h22
      have WG := fun (hgd : o.guard = some (22, false)) => wanted_some (D := DH) (a0 := a0) (u := u) hgd hog hogd rfl (by omega) (hF 22 (by omega))
      cases hp : p3
      · skip
        rw [hp, cond_false] at y0
        exact .inl ⟨(WG hgd).trans (by rw [hp]; rfl), wp_value (v := .int .i64 (rl : Int)) (w' := W) (by simp only [execOp, op, y0]; simp [go_sem, Result.andThen]; rw [(getD_at _ _).symm.trans y0]; go_simp) ⟨_, put_in hd rfl u _, rfl, by rfl⟩⟩
      · exact .inr ⟨(WG hgd).trans (by rw [hp]; rfl), hd, rfl, by rfl⟩
    · obtain ⟨hd, op, hgd⟩ := hasG_at h26 ho
      obtain ⟨og, hog, hogd⟩ := hasG_ex h22
      have WG := fun (hgd : o.guard = some (22, false)) => wanted_some (D := DH) (a0 := a0) (u := u) hgd hog hogd rfl (by omega) (hF 22 (by omega))
      cases hp : p3
      · skip
        exact .inl ⟨(WG hgd).trans (by rw [hp]; rfl), wp_value (v := .pointer (some ⟨B, 0, none⟩)) (w' := W) (by simp only [execOp, op, x1]; simp [ri9_f0, go_sem, Result.andThen]) ⟨_, put_in hd rfl u _, rfl, by rfl⟩⟩
      · exact .inr ⟨(WG hgd).trans (by rw [hp]; rfl), hd, rfl, by rfl⟩
    · obtain ⟨hd, op, hgd⟩ := hasG_at h27 ho
      have y0 := (ev 40 rfl (by omega)).trans (hF 26 (by omega))
      obtain ⟨og, hog, hogd⟩ := hasG_ex h22
      have WG := fun (hgd : o.guard = some (22, false)) => wanted_some (D := DH) (a0 := a0) (u := u) hgd hog hogd rfl (by omega) (hF 22 (by omega))
      cases hp : p3
      · skip
        rw [hp, cond_false] at y0
        exact .inl ⟨(WG hgd).trans (by rw [hp]; rfl), wp_value (v := .int .i64 half) (w' := W) (by simp only [execOp, op, y0]; simp [z0, go_sem, Result.andThen]) ⟨_, put_in hd rfl u _, rfl, by rfl⟩⟩
      · exact .inr ⟨(WG hgd).trans (by rw [hp]; rfl), hd, rfl, by rfl⟩
    · obtain ⟨hd, op, hgd⟩ := hasG_at h28 ho
      have y0 := (ev 41 rfl (by omega)).trans (hF 27 (by omega))
      obtain ⟨og, hog, hogd⟩ := hasG_ex h22
      have WG := fun (hgd : o.guard = some (22, false)) => wanted_some (D := DH) (a0 := a0) (u := u) hgd hog hogd rfl (by omega) (hF 22 (by omega))
      cases hp : p3
      · have hp0 : p1 = false := by exact chain3 hp
        rw [hp, cond_false] at y0
        exact .inl ⟨(WG hgd).trans (by rw [hp]; rfl), wp_value (v := .int .i64 (2 * half)) (w' := W) (by have bb := bnd hp0; simp only [execOp, op, y0]; simp [go_sem, Result.andThen]; rw [IntKind.wrap_i64]; omega) ⟨_, put_in hd rfl u _, rfl, by rfl⟩⟩
      · exact .inr ⟨(WG hgd).trans (by rw [hp]; rfl), hd, rfl, by rfl⟩
    · obtain ⟨hd, op, hgd⟩ := hasG_at h29 ho
      obtain ⟨og, hog, hogd⟩ := hasG_ex h22
      have WG := fun (hgd : o.guard = some (22, false)) => wanted_some (D := DH) (a0 := a0) (u := u) hgd hog hogd rfl (by omega) (hF 22 (by omega))
      cases hp : p3
      · skip
        exact .inl ⟨(WG hgd).trans (by rw [hp]; rfl), wp_value (v := .pointer (some ⟨B, 1, none⟩)) (w' := W) (by simp only [execOp, op, x1]; simp [ri9_f1, go_sem, Result.andThen]) ⟨_, put_in hd rfl u _, rfl, by rfl⟩⟩
      · exact .inr ⟨(WG hgd).trans (by rw [hp]; rfl), hd, rfl, by rfl⟩
    · obtain ⟨hd, op, hgd⟩ := hasG_at h30 ho
      have y0 := (ev 43 rfl (by omega)).trans (hF 29 (by omega))
      obtain ⟨og, hog, hogd⟩ := hasG_ex h22
      have WG := fun (hgd : o.guard = some (22, false)) => wanted_some (D := DH) (a0 := a0) (u := u) hgd hog hogd rfl (by omega) (hF 22 (by omega))
      cases hp : p3
      · skip
        rw [hp, cond_false] at y0
        exact .inl ⟨(WG hgd).trans (by rw [hp]; rfl), wp_value (v := .int .i64 old) (w' := W) (by simp only [execOp, op, y0]; simp [z1, go_sem, Result.andThen]) ⟨_, put_in hd rfl u _, rfl, by rfl⟩⟩
      · exact .inr ⟨(WG hgd).trans (by rw [hp]; rfl), hd, rfl, by rfl⟩
    · obtain ⟨hd, op, hgd⟩ := hasG_at h31 ho
      have y0 := (ev 42 rfl (by omega)).trans (hF 28 (by omega))
      have y1 := (ev 44 rfl (by omega)).trans (hF 30 (by omega))
      obtain ⟨og, hog, hogd⟩ := hasG_ex h22
      have WG := fun (hgd : o.guard = some (22, false)) => wanted_some (D := DH) (a0 := a0) (u := u) hgd hog hogd rfl (by omega) (hF 22 (by omega))
      cases hp : p3
      · have hp0 : p1 = false := by exact chain3 hp
        rw [hp, cond_false] at y0
        rw [hp, cond_false] at y1
        exact .inl ⟨(WG hgd).trans (by rw [hp]; rfl), wp_value (v := .int .i64 ((2 * half) + old)) (w' := W) (by have bb := bnd hp0; simp only [execOp, op, y0, y1]; simp [go_sem, Result.andThen]; rw [IntKind.wrap_i64]; omega) ⟨_, put_in hd rfl u _, rfl, by rfl⟩⟩
      · exact .inr ⟨(WG hgd).trans (by rw [hp]; rfl), hd, rfl, by rfl⟩
    · obtain ⟨hd, op, hgd⟩ := hasG_at h32 ho
      have y0 := (ev 39 rfl (by omega)).trans (hF 25 (by omega))
      have y1 := (ev 45 rfl (by omega)).trans (hF 31 (by omega))
      obtain ⟨og, hog, hogd⟩ := hasG_ex h22
      have WG := fun (hgd : o.guard = some (22, false)) => wanted_some (D := DH) (a0 := a0) (u := u) hgd hog hogd rfl (by omega) (hF 22 (by omega))
      cases hp : p3
      · have hp0 : p1 = false := by exact chain3 hp
        rw [hp, cond_false] at y0
        rw [hp, cond_false] at y1
        exact .inl ⟨(WG hgd).trans (by rw [hp]; rfl), wp_value (v := .bool ((rl : Int) != ((2 * half) + old))) (w' := W) (by have bb := bnd hp0; simp only [execOp, op, y0, y1]; simp [go_sem, Result.andThen]) ⟨_, put_in hd rfl u _, rfl, by rfl⟩⟩
      · exact .inr ⟨(WG hgd).trans (by rw [hp]; rfl), hd, rfl, by rfl⟩
    · obtain ⟨hd, op, hgd⟩ := hasG_at h33 ho
      have y0 := (ev 36 rfl (by omega)).trans (hF 22 (by omega))
      have y1 := (ev 46 rfl (by omega)).trans (hF 32 (by omega))
      exact .inl ⟨wanted_none hgd, wp_value (v := .bool p4) (w' := W) (by rw [q4]; cases hh : p3 <;> rw [hh] at y0 y1 <;> simp only [execOp, op, y0, y1] <;> simp [go_sem, Result.andThen]) ⟨_, put_in hd rfl u _, rfl, rfl⟩⟩
    · obtain ⟨hd, op, hgd⟩ := hasG_at h34 ho
      have y0 := (ev 47 rfl (by omega)).trans (hF 33 (by omega))
      exact .inl ⟨wanted_none hgd, wp_value (v := .bool p4) (w' := W) (by simp only [execOp, op, y0]; simp [go_sem, Result.andThen]) ⟨_, put_in hd rfl u _, rfl, by rfl⟩⟩
    · obtain ⟨hd, op, hgd⟩ := hasG_at h35 ho
      obtain ⟨og, hog, hogd⟩ := hasG_ex h34
      have WG := fun (hgd : o.guard = some (34, false)) => wanted_some (D := DH) (a0 := a0) (u := u) hgd hog hogd rfl (by omega) (hF 34 (by omega))
      cases hp : p4
      · skip
        exact .inl ⟨(WG hgd).trans (by rw [hp]; rfl), wp_value (v := .pointer (some ⟨B, 3, none⟩)) (w' := W) (by simp only [execOp, op, x1]; simp [ri9_f3, go_sem, Result.andThen]) ⟨_, put_in hd rfl u _, rfl, by rfl⟩⟩
      · exact .inr ⟨(WG hgd).trans (by rw [hp]; rfl), hd, rfl, by rfl⟩
    · obtain ⟨hd, op, hgd⟩ := hasG_at h36 ho
      have y0 := (ev 49 rfl (by omega)).trans (hF 35 (by omega))
      obtain ⟨og, hog, hogd⟩ := hasG_ex h34
      have WG := fun (hgd : o.guard = some (34, false)) => wanted_some (D := DH) (a0 := a0) (u := u) hgd hog hogd rfl (by omega) (hF 34 (by omega))
      cases hp : p4
      · skip
        rw [hp, cond_false] at y0
        exact .inl ⟨(WG hgd).trans (by rw [hp]; rfl), wp_value (v := .int .i64 side) (w' := W) (by simp only [execOp, op, y0]; simp [z3, go_sem, Result.andThen]) ⟨_, put_in hd rfl u _, rfl, by rfl⟩⟩
      · exact .inr ⟨(WG hgd).trans (by rw [hp]; rfl), hd, rfl, by rfl⟩
    · obtain ⟨hd, op, hgd⟩ := hasG_at h37 ho
      have y0 := (ev 50 rfl (by omega)).trans (hF 36 (by omega))
      obtain ⟨og, hog, hogd⟩ := hasG_ex h34
      have WG := fun (hgd : o.guard = some (34, false)) => wanted_some (D := DH) (a0 := a0) (u := u) hgd hog hogd rfl (by omega) (hF 34 (by omega))
      cases hp : p4
      · skip
        rw [hp, cond_false] at y0
        exact .inl ⟨(WG hgd).trans (by rw [hp]; rfl), wp_call (f := 88) (args := #[.int .i64 side, .int .i64 0, .int .i64 1]) (by simp only [execOp, op]; go_simp; exact (getD_at _ _).symm.trans y0) ((heads.l1In_any side 0 1 W).mono (by rintro e w' ⟨rfl, rfl⟩; exact ⟨_, rfl, _, put_in hd rfl u _, rfl, by rfl⟩))⟩
      · exact .inr ⟨(WG hgd).trans (by rw [hp]; rfl), hd, rfl, by rfl⟩
    · obtain ⟨hd, op, hgd⟩ := hasG_at h38 ho
      have y0 := (ev 51 rfl (by omega)).trans (hF 37 (by omega))
      obtain ⟨og, hog, hogd⟩ := hasG_ex h34
      have WG := fun (hgd : o.guard = some (34, false)) => wanted_some (D := DH) (a0 := a0) (u := u) hgd hog hogd rfl (by omega) (hF 34 (by omega))
      cases hp : p4
      · skip
        rw [hp, cond_false] at y0
        exact .inl ⟨(WG hgd).trans (by rw [hp]; rfl), wp_value (v := .bool (!(inR 0 1 side))) (w' := W) (by simp only [execOp, op, y0]; simp [go_sem, Result.andThen]) ⟨_, put_in hd rfl u _, rfl, by rfl⟩⟩
      · exact .inr ⟨(WG hgd).trans (by rw [hp]; rfl), hd, rfl, by rfl⟩
    · obtain ⟨hd, op, hgd⟩ := hasG_at h39 ho
      have y0 := (ev 48 rfl (by omega)).trans (hF 34 (by omega))
      have y1 := (ev 52 rfl (by omega)).trans (hF 38 (by omega))
      exact .inl ⟨wanted_none hgd, wp_value (v := .bool p5) (w' := W) (by rw [q5]; cases hh : p4 <;> rw [hh] at y0 y1 <;> simp only [execOp, op, y0, y1] <;> simp [go_sem, Result.andThen]) ⟨_, put_in hd rfl u _, rfl, rfl⟩⟩
    · obtain ⟨hd, op, hgd⟩ := hasG_at h40 ho
      have y0 := (ev 53 rfl (by omega)).trans (hF 39 (by omega))
      exact .inl ⟨wanted_none hgd, wp_value (v := .bool p5) (w' := W) (by simp only [execOp, op, y0]; simp [go_sem, Result.andThen]) ⟨_, put_in hd rfl u _, rfl, by rfl⟩⟩
    · obtain ⟨hd, op, hgd⟩ := hasG_at h41 ho
      obtain ⟨og, hog, hogd⟩ := hasG_ex h40
      have WG := fun (hgd : o.guard = some (40, false)) => wanted_some (D := DH) (a0 := a0) (u := u) hgd hog hogd rfl (by omega) (hF 40 (by omega))
      cases hp : p5
      · skip
        exact .inl ⟨(WG hgd).trans (by rw [hp]; rfl), wp_value (v := .pointer (some ⟨B, 4, none⟩)) (w' := W) (by simp only [execOp, op, x1]; simp [ri9_f4, go_sem, Result.andThen]) ⟨_, put_in hd rfl u _, rfl, by rfl⟩⟩
      · exact .inr ⟨(WG hgd).trans (by rw [hp]; rfl), hd, rfl, by rfl⟩
    · obtain ⟨hd, op, hgd⟩ := hasG_at h42 ho
      have y0 := (ev 55 rfl (by omega)).trans (hF 41 (by omega))
      obtain ⟨og, hog, hogd⟩ := hasG_ex h40
      have WG := fun (hgd : o.guard = some (40, false)) => wanted_some (D := DH) (a0 := a0) (u := u) hgd hog hogd rfl (by omega) (hF 40 (by omega))
      cases hp : p5
      · skip
        rw [hp, cond_false] at y0
        exact .inl ⟨(WG hgd).trans (by rw [hp]; rfl), wp_value (v := .int .i64 top) (w' := W) (by simp only [execOp, op, y0]; simp [z4, go_sem, Result.andThen]) ⟨_, put_in hd rfl u _, rfl, by rfl⟩⟩
      · exact .inr ⟨(WG hgd).trans (by rw [hp]; rfl), hd, rfl, by rfl⟩
    · obtain ⟨hd, op, hgd⟩ := hasG_at h43 ho
      obtain ⟨og, hog, hogd⟩ := hasG_ex h40
      have WG := fun (hgd : o.guard = some (40, false)) => wanted_some (D := DH) (a0 := a0) (u := u) hgd hog hogd rfl (by omega) (hF 40 (by omega))
      cases hp : p5
      · skip
        exact .inl ⟨(WG hgd).trans (by rw [hp]; rfl), wp_value (v := .pointer (some ⟨B, 0, none⟩)) (w' := W) (by simp only [execOp, op, x1]; simp [ri9_f0, go_sem, Result.andThen]) ⟨_, put_in hd rfl u _, rfl, by rfl⟩⟩
      · exact .inr ⟨(WG hgd).trans (by rw [hp]; rfl), hd, rfl, by rfl⟩
    · obtain ⟨hd, op, hgd⟩ := hasG_at h44 ho
      have y0 := (ev 57 rfl (by omega)).trans (hF 43 (by omega))
      obtain ⟨og, hog, hogd⟩ := hasG_ex h40
      have WG := fun (hgd : o.guard = some (40, false)) => wanted_some (D := DH) (a0 := a0) (u := u) hgd hog hogd rfl (by omega) (hF 40 (by omega))
      cases hp : p5
      · skip
        rw [hp, cond_false] at y0
        exact .inl ⟨(WG hgd).trans (by rw [hp]; rfl), wp_value (v := .int .i64 half) (w' := W) (by simp only [execOp, op, y0]; simp [z0, go_sem, Result.andThen]) ⟨_, put_in hd rfl u _, rfl, by rfl⟩⟩
      · exact .inr ⟨(WG hgd).trans (by rw [hp]; rfl), hd, rfl, by rfl⟩
    · obtain ⟨hd, op, hgd⟩ := hasG_at h45 ho
      have y0 := (ev 56 rfl (by omega)).trans (hF 42 (by omega))
      have y1 := (ev 58 rfl (by omega)).trans (hF 44 (by omega))
      obtain ⟨og, hog, hogd⟩ := hasG_ex h40
      have WG := fun (hgd : o.guard = some (40, false)) => wanted_some (D := DH) (a0 := a0) (u := u) hgd hog hogd rfl (by omega) (hF 40 (by omega))
      cases hp : p5
      · skip
        rw [hp, cond_false] at y0
        rw [hp, cond_false] at y1
        exact .inl ⟨(WG hgd).trans (by rw [hp]; rfl), wp_call (f := 88) (args := #[.int .i64 top, .int .i64 0, .int .i64 half]) (by simp only [execOp, op]; go_simp; exact ⟨(getD_at _ _).symm.trans y0, (getD_at _ _).symm.trans y1⟩) ((heads.l1In_any top 0 half W).mono (by rintro e w' ⟨rfl, rfl⟩; exact ⟨_, rfl, _, put_in hd rfl u _, rfl, by rfl⟩))⟩
      · exact .inr ⟨(WG hgd).trans (by rw [hp]; rfl), hd, rfl, by rfl⟩
    · obtain ⟨hd, op, hgd⟩ := hasG_at h46 ho
      have y0 := (ev 59 rfl (by omega)).trans (hF 45 (by omega))
      obtain ⟨og, hog, hogd⟩ := hasG_ex h40
      have WG := fun (hgd : o.guard = some (40, false)) => wanted_some (D := DH) (a0 := a0) (u := u) hgd hog hogd rfl (by omega) (hF 40 (by omega))
      cases hp : p5
      · skip
        rw [hp, cond_false] at y0
        exact .inl ⟨(WG hgd).trans (by rw [hp]; rfl), wp_value (v := .bool (!(inR 0 half top))) (w' := W) (by simp only [execOp, op, y0]; simp [go_sem, Result.andThen]) ⟨_, put_in hd rfl u _, rfl, by rfl⟩⟩
      · exact .inr ⟨(WG hgd).trans (by rw [hp]; rfl), hd, rfl, by rfl⟩
    · obtain ⟨hd, op, hgd⟩ := hasG_at h47 ho
      have y0 := (ev 54 rfl (by omega)).trans (hF 40 (by omega))
      have y1 := (ev 60 rfl (by omega)).trans (hF 46 (by omega))
      exact .inl ⟨wanted_none hgd, wp_value (v := .bool p6) (w' := W) (by rw [q6]; cases hh : p5 <;> rw [hh] at y0 y1 <;> simp only [execOp, op, y0, y1] <;> simp [go_sem, Result.andThen]) ⟨_, put_in hd rfl u _, rfl, rfl⟩⟩
    · obtain ⟨hd, op, hgd⟩ := hasG_at h48 ho
      have y0 := (ev 61 rfl (by omega)).trans (hF 47 (by omega))
      exact .inl ⟨wanted_none hgd, wp_value (v := .bool p6) (w' := W) (by simp only [execOp, op, y0]; simp [go_sem, Result.andThen]) ⟨_, put_in hd rfl u _, rfl, by rfl⟩⟩
    · obtain ⟨hd, op, hgd⟩ := hasG_at h49 ho
      obtain ⟨og, hog, hogd⟩ := hasG_ex h48
      have WG := fun (hgd : o.guard = some (48, false)) => wanted_some (D := DH) (a0 := a0) (u := u) hgd hog hogd rfl (by omega) (hF 48 (by omega))
      cases hp : p6
      · skip
        exact .inl ⟨(WG hgd).trans (by rw [hp]; rfl), wp_value (v := .pointer (some ⟨B, 5, none⟩)) (w' := W) (by simp only [execOp, op, x1]; simp [ri9_f5, go_sem, Result.andThen]) ⟨_, put_in hd rfl u _, rfl, by rfl⟩⟩
      · exact .inr ⟨(WG hgd).trans (by rw [hp]; rfl), hd, rfl, by rfl⟩
    · obtain ⟨hd, op, hgd⟩ := hasG_at h50 ho
      have y0 := (ev 63 rfl (by omega)).trans (hF 49 (by omega))
      obtain ⟨og, hog, hogd⟩ := hasG_ex h48
      have WG := fun (hgd : o.guard = some (48, false)) => wanted_some (D := DH) (a0 := a0) (u := u) hgd hog hogd rfl (by omega) (hF 48 (by omega))
      cases hp : p6
      · skip
        rw [hp, cond_false] at y0
        exact .inl ⟨(WG hgd).trans (by rw [hp]; rfl), wp_value (v := .slice a2 ol c2) (w' := W) (by simp only [execOp, op, y0]; simp [z5, go_sem, Result.andThen]) ⟨_, put_in hd rfl u _, rfl, by rfl⟩⟩
      · exact .inr ⟨(WG hgd).trans (by rw [hp]; rfl), hd, rfl, by rfl⟩
    · obtain ⟨hd, op, hgd⟩ := hasG_at h51 ho
      have y0 := (ev 64 rfl (by omega)).trans (hF 50 (by omega))
      obtain ⟨og, hog, hogd⟩ := hasG_ex h48
      have WG := fun (hgd : o.guard = some (48, false)) => wanted_some (D := DH) (a0 := a0) (u := u) hgd hog hogd rfl (by omega) (hF 48 (by omega))
      cases hp : p6
      · skip
        rw [hp, cond_false] at y0
        exact .inl ⟨(WG hgd).trans (by rw [hp]; rfl), wp_value (v := .int .i64 (ol : Int)) (w' := W) (by simp only [execOp, op, y0]; simp [go_sem, Result.andThen]; rw [(getD_at _ _).symm.trans y0]; go_simp) ⟨_, put_in hd rfl u _, rfl, by rfl⟩⟩
      · exact .inr ⟨(WG hgd).trans (by rw [hp]; rfl), hd, rfl, by rfl⟩
    · obtain ⟨hd, op, hgd⟩ := hasG_at h52 ho
      have y0 := (ev 65 rfl (by omega)).trans (hF 51 (by omega))
      obtain ⟨og, hog, hogd⟩ := hasG_ex h48
      have WG := fun (hgd : o.guard = some (48, false)) => wanted_some (D := DH) (a0 := a0) (u := u) hgd hog hogd rfl (by omega) (hF 48 (by omega))
      cases hp : p6
      · have hp0 : p1 = false := by exact chain6 hp
        rw [hp, cond_false] at y0
        exact .inl ⟨(WG hgd).trans (by rw [hp]; rfl), wp_value (v := .bool ((ol : Int) != 6)) (w' := W) (by have bb := bnd hp0; simp only [execOp, op, y0]; simp [go_sem, Result.andThen]) ⟨_, put_in hd rfl u _, rfl, by rfl⟩⟩
      · exact .inr ⟨(WG hgd).trans (by rw [hp]; rfl), hd, rfl, by rfl⟩
    · obtain ⟨hd, op, hgd⟩ := hasG_at h53 ho
      have y0 := (ev 62 rfl (by omega)).trans (hF 48 (by omega))
      have y1 := (ev 66 rfl (by omega)).trans (hF 52 (by omega))
      exact .inl ⟨wanted_none hgd, wp_value (v := .bool p7) (w' := W) (by rw [q7]; cases hh : p6 <;> rw [hh] at y0 y1 <;> simp only [execOp, op, y0, y1] <;> simp [go_sem, Result.andThen]) ⟨_, put_in hd rfl u _, rfl, rfl⟩⟩
    · obtain ⟨hd, op, hgd⟩ := hasG_at h54 ho
      have y0 := (ev 67 rfl (by omega)).trans (hF 53 (by omega))
      exact .inl ⟨wanted_none hgd, wp_value (v := .bool p7) (w' := W) (by simp only [execOp, op, y0]; simp [go_sem, Result.andThen]) ⟨_, put_in hd rfl u _, rfl, by rfl⟩⟩
    · obtain ⟨hd, op, hgd⟩ := hasG_at h55 ho
      obtain ⟨og, hog, hogd⟩ := hasG_ex h54
      have WG := fun (hgd : o.guard = some (54, false)) => wanted_some (D := DH) (a0 := a0) (u := u) hgd hog hogd rfl (by omega) (hF 54 (by omega))
      cases hp : p7
      · skip
        exact .inl ⟨(WG hgd).trans (by rw [hp]; rfl), wp_value (v := .pointer (some ⟨B, 6, none⟩)) (w' := W) (by simp only [execOp, op, x1]; simp [ri9_f6, go_sem, Result.andThen]) ⟨_, put_in hd rfl u _, rfl, by rfl⟩⟩
      · exact .inr ⟨(WG hgd).trans (by rw [hp]; rfl), hd, rfl, by rfl⟩
    · obtain ⟨hd, op, hgd⟩ := hasG_at h56 ho
      have y0 := (ev 69 rfl (by omega)).trans (hF 55 (by omega))
      obtain ⟨og, hog, hogd⟩ := hasG_ex h54
      have WG := fun (hgd : o.guard = some (54, false)) => wanted_some (D := DH) (a0 := a0) (u := u) hgd hog hogd rfl (by omega) (hF 54 (by omega))
      cases hp : p7
      · skip
        rw [hp, cond_false] at y0
        exact .inl ⟨(WG hgd).trans (by rw [hp]; rfl), wp_value (v := .slice a3 ml c3) (w' := W) (by simp only [execOp, op, y0]; simp [z6, go_sem, Result.andThen]) ⟨_, put_in hd rfl u _, rfl, by rfl⟩⟩
      · exact .inr ⟨(WG hgd).trans (by rw [hp]; rfl), hd, rfl, by rfl⟩
    · obtain ⟨hd, op, hgd⟩ := hasG_at h57 ho
      have y0 := (ev 70 rfl (by omega)).trans (hF 56 (by omega))
      obtain ⟨og, hog, hogd⟩ := hasG_ex h54
      have WG := fun (hgd : o.guard = some (54, false)) => wanted_some (D := DH) (a0 := a0) (u := u) hgd hog hogd rfl (by omega) (hF 54 (by omega))
      cases hp : p7
      · skip
        rw [hp, cond_false] at y0
        exact .inl ⟨(WG hgd).trans (by rw [hp]; rfl), wp_value (v := .int .i64 (ml : Int)) (w' := W) (by simp only [execOp, op, y0]; simp [go_sem, Result.andThen]; rw [(getD_at _ _).symm.trans y0]; go_simp) ⟨_, put_in hd rfl u _, rfl, by rfl⟩⟩
      · exact .inr ⟨(WG hgd).trans (by rw [hp]; rfl), hd, rfl, by rfl⟩
    · obtain ⟨hd, op, hgd⟩ := hasG_at h58 ho
      have y0 := (ev 71 rfl (by omega)).trans (hF 57 (by omega))
      obtain ⟨og, hog, hogd⟩ := hasG_ex h54
      have WG := fun (hgd : o.guard = some (54, false)) => wanted_some (D := DH) (a0 := a0) (u := u) hgd hog hogd rfl (by omega) (hF 54 (by omega))
      cases hp : p7
      · have hp0 : p1 = false := by exact chain7 hp
        rw [hp, cond_false] at y0
        exact .inl ⟨(WG hgd).trans (by rw [hp]; rfl), wp_value (v := .bool (decide (40 < (ml : Int)))) (w' := W) (by have bb := bnd hp0; simp only [execOp, op, y0]; simp [go_sem, Result.andThen]) ⟨_, put_in hd rfl u _, rfl, by rfl⟩⟩
      · exact .inr ⟨(WG hgd).trans (by rw [hp]; rfl), hd, rfl, by rfl⟩
    · obtain ⟨hd, op, hgd⟩ := hasG_at h59 ho
      have y0 := (ev 68 rfl (by omega)).trans (hF 54 (by omega))
      have y1 := (ev 72 rfl (by omega)).trans (hF 58 (by omega))
      exact .inl ⟨wanted_none hgd, wp_value (v := .bool p8) (w' := W) (by rw [q8]; cases hh : p7 <;> rw [hh] at y0 y1 <;> simp only [execOp, op, y0, y1] <;> simp [go_sem, Result.andThen]) ⟨_, put_in hd rfl u _, rfl, rfl⟩⟩
    · obtain ⟨hd, op, hgd⟩ := hasG_at h60 ho
      have y0 := (ev 73 rfl (by omega)).trans (hF 59 (by omega))
      exact .inl ⟨wanted_none hgd, wp_value (v := .bool p8) (w' := W) (by simp only [execOp, op, y0]; simp [go_sem, Result.andThen]) ⟨_, put_in hd rfl u _, rfl, by rfl⟩⟩
    · obtain ⟨hd, op, hgd⟩ := hasG_at h61 ho
      obtain ⟨og, hog, hogd⟩ := hasG_ex h60
      have WG := fun (hgd : o.guard = some (60, false)) => wanted_some (D := DH) (a0 := a0) (u := u) hgd hog hogd rfl (by omega) (hF 60 (by omega))
      cases hp : p8
      · skip
        exact .inl ⟨(WG hgd).trans (by rw [hp]; rfl), wp_value (v := .pointer (some ⟨B, 8, none⟩)) (w' := W) (by simp only [execOp, op, x1]; simp [ri9_f8, go_sem, Result.andThen]) ⟨_, put_in hd rfl u _, rfl, by rfl⟩⟩
      · exact .inr ⟨(WG hgd).trans (by rw [hp]; rfl), hd, rfl, by rfl⟩
    · obtain ⟨hd, op, hgd⟩ := hasG_at h62 ho
      have y0 := (ev 75 rfl (by omega)).trans (hF 61 (by omega))
      obtain ⟨og, hog, hogd⟩ := hasG_ex h60
      have WG := fun (hgd : o.guard = some (60, false)) => wanted_some (D := DH) (a0 := a0) (u := u) hgd hog hogd rfl (by omega) (hF 60 (by omega))
      cases hp : p8
      · skip
        rw [hp, cond_false] at y0
        exact .inl ⟨(WG hgd).trans (by rw [hp]; rfl), wp_value (v := .int .i64 seed) (w' := W) (by simp only [execOp, op, y0]; simp [z8, go_sem, Result.andThen]) ⟨_, put_in hd rfl u _, rfl, by rfl⟩⟩
      · exact .inr ⟨(WG hgd).trans (by rw [hp]; rfl), hd, rfl, by rfl⟩
    · obtain ⟨hd, op, hgd⟩ := hasG_at h63 ho
      have y0 := (ev 76 rfl (by omega)).trans (hF 62 (by omega))
      obtain ⟨og, hog, hogd⟩ := hasG_ex h60
      have WG := fun (hgd : o.guard = some (60, false)) => wanted_some (D := DH) (a0 := a0) (u := u) hgd hog hogd rfl (by omega) (hF 60 (by omega))
      cases hp : p8
      · skip
        rw [hp, cond_false] at y0
        exact .inl ⟨(WG hgd).trans (by rw [hp]; rfl), wp_call (f := 88) (args := #[.int .i64 seed, .int .i64 0, .int .i64 65535]) (by simp only [execOp, op]; go_simp; exact (getD_at _ _).symm.trans y0) ((heads.l1In_any seed 0 65535 W).mono (by rintro e w' ⟨rfl, rfl⟩; exact ⟨_, rfl, _, put_in hd rfl u _, rfl, by rfl⟩))⟩
      · exact .inr ⟨(WG hgd).trans (by rw [hp]; rfl), hd, rfl, by rfl⟩
    · obtain ⟨hd, op, hgd⟩ := hasG_at h64 ho
      have y0 := (ev 77 rfl (by omega)).trans (hF 63 (by omega))
      obtain ⟨og, hog, hogd⟩ := hasG_ex h60
      have WG := fun (hgd : o.guard = some (60, false)) => wanted_some (D := DH) (a0 := a0) (u := u) hgd hog hogd rfl (by omega) (hF 60 (by omega))
      cases hp : p8
      · skip
        rw [hp, cond_false] at y0
        exact .inl ⟨(WG hgd).trans (by rw [hp]; rfl), wp_value (v := .bool (!(inR 0 65535 seed))) (w' := W) (by simp only [execOp, op, y0]; simp [go_sem, Result.andThen]) ⟨_, put_in hd rfl u _, rfl, by rfl⟩⟩
      · exact .inr ⟨(WG hgd).trans (by rw [hp]; rfl), hd, rfl, by rfl⟩
    · obtain ⟨hd, op, hgd⟩ := hasG_at h65 ho
      have y0 := (ev 74 rfl (by omega)).trans (hF 60 (by omega))
      have y1 := (ev 78 rfl (by omega)).trans (hF 64 (by omega))
      exact .inl ⟨wanted_none hgd, wp_value (v := .bool p9) (w' := W) (by rw [q9]; cases hh : p8 <;> rw [hh] at y0 y1 <;> simp only [execOp, op, y0, y1] <;> simp [go_sem, Result.andThen]) ⟨_, put_in hd rfl u _, rfl, rfl⟩⟩
  · rintro u W rfl hF
    exact fin u (hF 65 (by omega))
end Go.Proofs.YtmhbdmmpmagbkaaGreat.hp
namespace Go.Proofs.YtmhbdmmpmagbkaaGreat.walks
open Go.RowKit rows heads words
set_option maxRecDepth 100000

theorem grown_set {w w' : World} {g : Nat} (h : w.grownBy w' (some g)) (k : Nat) (u : Value) : w.grownBy (w'.setCell ⟨g, k, none⟩ u) (some g) :=
  ⟨h.os, h.tape, h.output, by simpa using h.size, fun k' hk hne => (Below.heap_setCell w' _ u k' (fun e => hne (by simp [e]))).trans (h.block k' hk hne)⟩
theorem grown_alloc {w w' : World} {r : Option Nat} (h : w.grownBy w' r) (o : Obj) : w.grownBy (w'.alloc o) r :=
  ⟨h.os, h.tape, h.output, by have := h.size; simp; omega, fun k hk hne => (Below.heap_alloc w' o k (Nat.lt_of_lt_of_le hk h.size)).trans (h.block k hk hne)⟩

end Go.Proofs.YtmhbdmmpmagbkaaGreat.walks
namespace Go.Proofs.YtmhbdmmpmagbkaaGreat.walks
open Go.RowKit rows heads words
set_option maxRecDepth 100000

theorem own_nothing2 {w : World} {base g : Nat} (hg : g = w.heap.size) (hb : base ≤ g) : rows.Own (w.alloc (.cells #[] 2)) base (.slice (some ⟨g, 0, none⟩) 0 0) [] := by
  subst hg; exact own_nothing w base hb
theorem all_not {ys : List Int} {q : Nat} (hq : q < ys.length) (h : isW (ys.getD q 0) = false) : ys.all isW = false := by
  rw [List.all_eq_false]
  refine ⟨ys.getD q 0, ?_, by rw [h]; simp⟩
  rw [List.getD_eq_getElem?_getD, List.getElem?_eq_getElem hq]
  exact List.getElem_mem hq
theorem all_yes {ys : List Int} (h : ∀ q, q < ys.length → isW (ys.getD q 0) = true) : ys.all isW = true := by
  rw [List.all_eq_true]
  intro x hx
  obtain ⟨q, hq, rfl⟩ := List.mem_iff_getElem.1 hx
  have := h q hq
  rwa [List.getD_eq_getElem?_getD, List.getElem?_eq_getElem hq] at this

theorem putOk_false {xs ys : List Int} {i s f c g : Int} {p m : Bool} (h : ¬ (hok s f c g p m = true ∧ f ≤ 2 ∧ m = false ∧ (ys.length : Int) = s ∧ atOk xs i = true ∧ i + sz s ≤ xs.length ∧ ys.all isW = true)) : putOk xs i s f c g p m ys = false := by
  cases e : putOk xs i s f c g p m ys
  · rfl
  · refine absurd ?_ h
    simp only [putOk, Bool.and_eq_true, decide_eq_true_eq, Bool.not_eq_true'] at e
    obtain ⟨⟨_, ⟨⟨⟨⟨e1, e2⟩, e3⟩, e4⟩, e5⟩, e6⟩, e7⟩ := e
    exact ⟨e1, e2, e3, e4, e5, e6, e7⟩
theorem putOk_true {xs ys : List Int} {i s f c g : Int} {p m : Bool} (d : rowOk xs = true) (h : hok s f c g p m = true ∧ f ≤ 2 ∧ m = false ∧ (ys.length : Int) = s ∧ atOk xs i = true ∧ i + sz s ≤ xs.length ∧ ys.all isW = true) : putOk xs i s f c g p m ys = true := by
  obtain ⟨e1, e2, e3, e4, e5, e6, e7⟩ := h
  unfold putOk
  rw [d, e1, e3, e5, e7, decide_eq_true e2, decide_eq_true e4, decide_eq_true e6]
  rfl

end Go.Proofs.YtmhbdmmpmagbkaaGreat.walks
namespace Go.Proofs.YtmhbdmmpmagbkaaGreat.hp
open Go.RowKit rows heads words walks region
set_option maxRecDepth 100000
set_option linter.unusedVariables false

/-- The numbers of a heap, one test behind the other. -/
def hb0 (H : Hp) : Bool := !inR 8 200 H.half
def hb1 (H : Hp) : Bool := hb0 H || !inR 8 400 H.old
def hb2 (H : Hp) : Bool := hb1 H || (H.half % 2 != 0)
def hb3 (H : Hp) : Bool := hb2 H || (H.old % 2 != 0)
def hb4 (H : Hp) : Bool := hb3 H || ((H.row.length : Int) != 2 * H.half + H.old)
def hb5 (H : Hp) : Bool := hb4 H || !inR 0 1 H.side
def hb6 (H : Hp) : Bool := hb5 H || !inR 0 H.half H.top
def hb7 (H : Hp) : Bool := hb6 H || ((H.roots.length : Int) != 6)
def hb8 (H : Hp) : Bool := hb7 H || decide (40 < (H.mourned.length : Int))
/-- Is one of them not as it must be? -/
def hbad (H : Hp) : Bool := hb8 H || !inR 0 65535 H.seed

set_option maxHeartbeats 16000000 in
theorem places_head {w : World} {vr vo vm vs : Value} {H : Hp} (h : HpAt w vr vo vm vs H) (hd : hbad H = true) :
    Calls Tryz.prog 78 #[hpv H vr vo vm vs] w fun e w' => ∃ v', e = .returned (.tuple #[v', .bool false]) ∧ rows.Own w' w.heap.size v' [] ∧ Below w.heap.size w w' := by
  obtain ⟨a1, c1, a2, c2, a3, c3, a4, c4, e1, e2, e3, e4⟩ := hpAt_slices h
  subst e1 e2 e3 e4
  have B0 : Below w.heap.size w ((w.alloc (hpb H (.slice a1 H.row.length c1) (.slice a2 H.roots.length c2) (.slice a3 H.mourned.length c3) (.slice a4 H.seen.length c4))).alloc (.cells #[] 2)) := ((Below.refl _ _).alloc (Nat.le_refl _) _).alloc (by simp) _
  have HB0 : Hid _ := B0
  have HO0 : Hid (rows.Own ((w.alloc (hpb H (.slice a1 H.row.length c1) (.slice a2 H.roots.length c2) (.slice a3 H.mourned.length c3) (.slice a4 H.seen.length c4))).alloc (.cells #[] 2)) w.heap.size (.slice (some ⟨w.heap.size + 1, 0, none⟩) 0 0) []) := own_nothing2 (by simp) (by omega)
  have T1 : Nine ((w.alloc (hpb H (.slice a1 H.row.length c1) (.slice a2 H.roots.length c2) (.slice a3 H.mourned.length c3) (.slice a4 H.seen.length c4))).alloc (.cells #[] 2)) w.heap.size 31 (.int .i64 H.half) (.int .i64 H.old) (.slice a1 H.row.length c1) (.int .i64 H.side) (.int .i64 H.top) (.slice a2 H.roots.length c2) (.slice a3 H.mourned.length c3) (.slice a4 H.seen.length c4) (.int .i64 H.seed) := nine_below (nine_new w H _ _ _ _) ((Below.refl _ _).alloc (Nat.le_refl _) _)
  have HZ : Hid _ := nine_cells T1
  have HD : Hid _ := hd
  clear B0 T1 h hd
  go_enter Tryz.func78, Tryz.ntmps78
  go_upto_region 2 with fail
  go_cut [79] from 14 to 78 (fun v wz => v = .bool (hbad H) ∧ wz = ((w.alloc (hpb H (.slice a1 H.row.length c1) (.slice a2 H.roots.length c2) (.slice a3 H.mourned.length c3) (.slice a4 H.seen.length c4))).alloc (.cells #[] 2)))
  case first =>
    rename_i J K' HJ HK
    obtain ⟨⟨z0, z1, z2, z3, z4⟩, ⟨z5, z6, z7, z8⟩, _⟩ := HZ.out
    refine regHead (p0 := hb0 H) (p1 := hb1 H) (p2 := hb2 H) (p3 := hb3 H) (p4 := hb4 H) (p5 := hb5 H) (p6 := hb6 H) (p7 := hb7 H) (p8 := hb8 H) (p9 := hbad H) rfl ⟨_, rfl, rfl, rfl, rfl⟩ ⟨_, rfl, rfl, rfl, rfl⟩ ⟨_, rfl, rfl, rfl, rfl⟩ ⟨_, rfl, rfl, rfl, rfl⟩ ⟨_, rfl, rfl, rfl, rfl⟩ ⟨_, rfl, rfl, rfl, rfl⟩ ⟨_, rfl, rfl, rfl, rfl⟩ ⟨_, rfl, rfl, rfl, rfl⟩ ⟨_, rfl, rfl, rfl, rfl⟩ ⟨_, rfl, rfl, rfl, rfl⟩ ⟨_, rfl, rfl, rfl, rfl⟩ ⟨_, rfl, rfl, rfl, rfl⟩ ⟨_, rfl, rfl, rfl, rfl⟩ ⟨_, rfl, rfl, rfl, rfl⟩ ⟨_, rfl, rfl, rfl, rfl⟩ ⟨_, rfl, rfl, rfl, rfl⟩ ⟨_, rfl, rfl, rfl, rfl⟩ ⟨_, rfl, rfl, rfl, rfl⟩ ⟨_, rfl, rfl, rfl, rfl⟩ ⟨_, rfl, rfl, rfl, rfl⟩ ⟨_, rfl, rfl, rfl, rfl⟩ ⟨_, rfl, rfl, rfl, rfl⟩ ⟨_, rfl, rfl, rfl, rfl⟩ ⟨_, rfl, rfl, rfl, rfl⟩ ⟨_, rfl, rfl, rfl, rfl⟩ ⟨_, rfl, rfl, rfl, rfl⟩ ⟨_, rfl, rfl, rfl, rfl⟩ ⟨_, rfl, rfl, rfl, rfl⟩ ⟨_, rfl, rfl, rfl, rfl⟩ ⟨_, rfl, rfl, rfl, rfl⟩ ⟨_, rfl, rfl, rfl, rfl⟩ ⟨_, rfl, rfl, rfl, rfl⟩ ⟨_, rfl, rfl, rfl, rfl⟩ ⟨_, rfl, rfl, rfl, rfl⟩ ⟨_, rfl, rfl, rfl, rfl⟩ ⟨_, rfl, rfl, rfl, rfl⟩ ⟨_, rfl, rfl, rfl, rfl⟩ ⟨_, rfl, rfl, rfl, rfl⟩ ⟨_, rfl, rfl, rfl, rfl⟩ ⟨_, rfl, rfl, rfl, rfl⟩ ⟨_, rfl, rfl, rfl, rfl⟩ ⟨_, rfl, rfl, rfl, rfl⟩ ⟨_, rfl, rfl, rfl, rfl⟩ ⟨_, rfl, rfl, rfl, rfl⟩ ⟨_, rfl, rfl, rfl, rfl⟩ ⟨_, rfl, rfl, rfl, rfl⟩ ⟨_, rfl, rfl, rfl, rfl⟩ ⟨_, rfl, rfl, rfl, rfl⟩ ⟨_, rfl, rfl, rfl, rfl⟩ ⟨_, rfl, rfl, rfl, rfl⟩ ⟨_, rfl, rfl, rfl, rfl⟩ ⟨_, rfl, rfl, rfl, rfl⟩ ⟨_, rfl, rfl, rfl, rfl⟩ ⟨_, rfl, rfl, rfl, rfl⟩ ⟨_, rfl, rfl, rfl, rfl⟩ ⟨_, rfl, rfl, rfl, rfl⟩ ⟨_, rfl, rfl, rfl, rfl⟩ ⟨_, rfl, rfl, rfl, rfl⟩ ⟨_, rfl, rfl, rfl, rfl⟩ ⟨_, rfl, rfl, rfl, rfl⟩ ⟨_, rfl, rfl, rfl, rfl⟩ ⟨_, rfl, rfl, rfl, rfl⟩ ⟨_, rfl, rfl, rfl, rfl⟩ ⟨_, rfl, rfl, rfl, rfl⟩ ⟨_, rfl, rfl, rfl, rfl⟩ ⟨_, rfl, rfl, rfl, rfl⟩ (by simp) rfl z0 z1 z2 z3 z4 z5 z6 z8 rfl rfl rfl rfl rfl rfl rfl rfl rfl rfl ?_
    intro u hu
    exact HK _ _ (Met.intro (HJ _ _ ⟨u 14, u 15, u 16, u 17, u 18, u 19, u 20, u 21, u 22, u 23, u 24, u 25, u 26, u 27, u 28, u 29, u 30, u 31, u 32, u 33, u 34, u 35, u 36, u 37, u 38, u 39, u 40, u 41, u 42, u 43, u 44, u 45, u 46, u 47, u 48, u 49, u 50, u 51, u 52, u 53, u 54, u 55, u 56, u 57, u 58, u 59, u 60, u 61, u 62, u 63, u 64, u 65, u 66, u 67, u 68, u 69, u 70, u 71, u 72, u 73, u 74, u 75, u 76, u 77, u 78, u 79, ⟨hu, rfl⟩, rfl⟩))
  obtain ⟨rfl, rfl⟩ := hcut
  rw [HD.out]
  go_wp2
  go_ret2
  exact ⟨_, rfl, HO0.out, HB0.out⟩
end Go.Proofs.YtmhbdmmpmagbkaaGreat.hp
namespace Go.Proofs.YtmhbdmmpmagbkaaGreat.walks
open Go.RowKit rows heads words

/-- The row with a free chunk of n words there. -/
def freeR (xs : List Int) (k n : Nat) : List Int := put xs k (pk 0 6 0 0 false false) [(n : Int)] 1 n
theorem freeR_set {xs : List Int} {k n : Nat} (h : k + n ≤ xs.length) (h2 : 2 ≤ n) : ((fill xs k n 0).set k (pk 0 6 0 0 false false)).set (k + 1) (n : Int) = freeR xs k n := by
  rw [put_zero (ys := [(n : Int)]) h (by omega)]
  have := put_set (xs := xs) (ys := [(n : Int)]) (k := k) (j := 0) (n := n) (hd := pk 0 6 0 0 false false) h (by simp) (by simp; omega)
  unfold freeR
  simpa using this
theorem freeR_length {xs : List Int} {k n : Nat} (h : k + n ≤ xs.length) (h2 : 2 ≤ n) : (freeR xs k n).length = xs.length := put_length h (by simp) (by omega)

/-- What is freed there. -/
def freed (xs : List Int) (i : Int) : List Int := if objOk xs i = true then freeR xs i.toNat (chunk xs i.toNat).toNat else if rowOk xs = true then xs else []
theorem freed_length (xs : List Int) (i : Int) (hl : xs.length ≤ 1048576) : (freed xs i).length ≤ 1048576 := by
  unfold freed
  split
  · rename_i h
    simp only [objOk, Bool.and_eq_true, decide_eq_true_eq] at h
    have h1 := h.1
    unfold chunkAt at h1
    split at h1
    · have := chunk_bounds xs i.toNat
      rw [freeR_length (by omega) (by omega)]
      exact hl
    · exact absurd rfl h1
  · split
    · exact hl
    · simp

/-- Is the chunk there free? -/
def isFreeAt (xs : List Int) (i : Int) : Bool := uF (xs.getD i.toNat 0) == 6
/-- The places of free chunks. -/
def freeIn (xs : List Int) (f t : Int) : List Int := (walked xs f t).filter (isFreeAt xs)
theorem freeIn_length (xs : List Int) (f t : Int) : (freeIn xs f t).length ≤ 1000 ∧ AllI (freeIn xs f t) := by
  have := walked_length xs f t
  exact ⟨Nat.le_trans (List.length_filter_le _ _) this.1, fun x hx => this.2 x (List.mem_filter.1 hx).1⟩
/-- Each place of a walk is a place of the row where a chunk is. -/
theorem walkL_mem (xs : List Int) (t : Nat) (_ht : t ≤ xs.length) : ∀ (n k : Nat) (l : List Int), walkL xs t n k = some l → ∀ x ∈ l, ∃ j : Nat, x = j ∧ k ≤ j ∧ j < t ∧ chunk xs j ≠ 0 := by
  intro n
  induction n with
  | zero =>
    intro k l h
    unfold walkL at h
    split at h
    · cases h
    · cases h; simp
  | succ n ih =>
    intro k l h
    by_cases h1 : k < t
    · by_cases hb : chunk xs k = 0 ∨ (k : Int) + chunk xs k > t
      · rw [walkL_bad _ _ _ _ h1 hb] at h; cases h
      · rw [walkL_step _ _ _ _ h1 hb] at h
        obtain ⟨l', hl', rfl⟩ := Option.map_eq_some_iff.1 h
        intro x hx
        rcases List.mem_cons.1 hx with rfl | hx
        · exact ⟨k, rfl, Nat.le_refl _, h1, fun e => hb (.inl e)⟩
        · obtain ⟨j, a, b, c, d⟩ := ih _ _ hl' x hx
          exact ⟨j, a, by omega, c, d⟩
    · rw [walkL_end _ _ _ _ h1] at h
      cases h; simp
theorem walked_mem {xs : List Int} {f t : Int} {x : Int} (h : x ∈ walked xs f t) : ∃ j : Nat, x = j ∧ j < xs.length ∧ rowOk xs = true ∧ chunk xs j ≠ 0 := by
  unfold walked walkR at h
  split at h
  · rename_i hr
    simp only [rangeOk, Bool.and_eq_true, decide_eq_true_eq] at hr
    cases e : walkO xs f.toNat t.toNat with
    | none => rw [e] at h; simp at h
    | some l =>
      rw [e] at h
      obtain ⟨j, a, _, c, d⟩ := walkL_mem xs t.toNat (by omega) _ _ _ e x (by simpa using h)
      exact ⟨j, a, by omega, hr.1, d⟩
  · simp at h
end Go.Proofs.YtmhbdmmpmagbkaaGreat.walks
