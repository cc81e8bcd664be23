/-
  Chapter 9: a new heap; by the specification and by the program. Chapter 9: a new heap, where its numbers are right; by the specification. Chapter 9: what the program's NewHeap leans on: even numbers within bounds, a row of six words. The places that the program's chunks hands out, as a list; a walk told by them.
-/
import Derived.Test.YtmmlghdffglocaaGreatM8
import Derived.Test.YtmmlghdffglocaaGreatM5
import Derived.Test.YtmmlghdffglocaaGreatM10
import Derived.Deep.Upon
import Derived.Lib.Hide
import Derived.Maps.AppendAt
import Derived.Test.YtmmlghdffglocaaGreatM3
import Derived.Deep.RegionLaw
import Derived.Test.YtmmlghdffglocaaGreatWalkIChunk
namespace Go.Proofs.YtmmlghdffglocaaGreat.hp
open Go.RowKit rows heads words walks
set_option maxRecDepth 100000
set_option linter.unusedVariables false
set_option linter.unusedSimpArgs false

/-- An even number within bounds. -/
def evn (lo hi x : Int) : Bool := inR lo hi x && decide (x % 2 = 0)
/-- Are these the sizes and the seed of a heap? -/
def nOk (x y z : Int) : Bool := evn 8 200 x && evn 8 400 y && inR 0 65535 z
def hp0 : Hp := ⟨0, 0, [], 0, 0, [], [], [], 0⟩
/-- A new heap. -/
def hNew (x y z : Int) : Hp × Bool := if nOk x y z = true then (⟨x, y, freeR (List.replicate (2 * x + y).toNat 0) (2 * x).toNat y.toNat, 0, 0, List.replicate 6 2, [], [], z⟩, true) else (hp0, false)
theorem inR_true {lo hi x : Int} (h : inR lo hi x = true) : lo ≤ x ∧ x ≤ hi := by simpa [inR] using h
theorem inR_false {lo hi x : Int} (h : inR lo hi x = false) : ¬ (lo ≤ x ∧ x ≤ hi) := by simpa [inR] using h
theorem evn_true {lo hi x : Int} (h : evn lo hi x = true) : lo ≤ x ∧ x ≤ hi ∧ x % 2 = 0 := by
  simp only [evn, Bool.and_eq_true, decide_eq_true_eq] at h
  exact ⟨(inR_true h.1).1, (inR_true h.1).2, h.2⟩
theorem fill_zeros {L k n : Nat} (h : k + n ≤ L) : fill (List.replicate L (0 : Int)) k n 0 = List.replicate L 0 := by
  apply List.ext_getElem?
  intro i
  simp only [fill, List.getElem?_append, List.length_take, List.getElem?_take, List.getElem?_replicate, List.length_append, List.length_replicate, List.getElem?_drop, List.length_drop]
  grind
theorem hR_NewH (x y z : Int) : hpSize (hNew x y z).1 ≤ 1048576 := by
  unfold hNew
  split
  · rename_i h
    simp only [nOk, Bool.and_eq_true] at h
    have e1 := evn_true h.1.1
    have e2 := evn_true h.1.2
    unfold hpSize
    rw [freeR_length (by simp; omega) (by omega)]
    simp
    omega
  · decide

set_option maxHeartbeats 4000000 in
theorem l4Free_at {w : World} {base g len cap k n : Nat} {xs : List Int} (hO : w.ownsRow base 2 1 (.slice (some ⟨g, 0, none⟩) len cap) len (cellsOf xs)) (hx : xs.length = len) (hl : len ≤ 1048576) (h2 : 2 ≤ n) (hkn : k + n ≤ len) :
    Calls Tryz.prog 45 #[.slice (some ⟨g, 0, none⟩) len cap, .int .i64 k, .int .i64 n] w fun e w' => (∃ v', e = .returned v') ∧ w'.ownsRow base 2 1 (.slice (some ⟨g, 0, none⟩) len cap) len (cellsOf (freeR xs k n)) ∧ w.grownBy w' (some g) := by
  have hok6 : hok 0 6 0 0 false false = true := by decide
  go_enter Tryz.func45, Tryz.ntmps45
  go_wp2_with fail
  go_loopw [6] (fun i wr => ∃ j : Nat, j ≤ n ∧ i = .int .i64 (j : Int) ∧ wr.ownsRow base 2 1 (.slice (some ⟨g, 0, none⟩) len cap) len (cellsOf (fill xs k j 0)) ∧ w.grownBy wr (some g)) (fun i _ => n - (intOf i).toNat)
  case atStart => exact ⟨0, by omega, by simp, by rw [fill_zero]; exact hO, grown_bel' (Below.refl _ _) _⟩
  case round =>
    obtain ⟨j, hj, rfl, Or, Br⟩ := hrel
    by_cases hlt : j < n
    · have hlt' : (j : Int) < (n : Int) := by omega
      have c0 := World.ownsRow.cellAt Or (k + j) (by omega)
      have c1 := World.ownsRow.frozenAt Or (k + j)
      have S := (World.ownsRow.stored Or (k + j) (.int .i64 0)).1
      have e1 : (cellsOf (fill xs k j 0)).set (k + j) (.int .i64 0) = cellsOf (fill xs k (j + 1) 0) := by
        rw [← fill_set (by omega)]; simp [cellsOf, List.map_set]
      rw [e1] at S
      have HO : Hid _ := S
      have HB : Hid _ := grown_setG Br (k + j) (.int .i64 0)
      obtain ⟨y, hy'⟩ : ∃ y, (cellsOf (fill xs k j 0))[k + j]? = some y := ⟨_, List.getElem?_eq_getElem (by simp [fill_length (show k + j ≤ xs.length by omega)]; omega)⟩
      rw [hy'] at c0
      clear Or Br S e1 hy' hO
      go_wp2
      exact ⟨⟨j + 1, by omega, by go_num, HO, HB⟩, by simp [intOf]; omega⟩
    · have e : j = n := by omega
      subst e
      have hlt' : ¬ (j : Int) < (j : Int) := by omega
      have HO : Hid _ := Or
      have HB : Hid _ := Br
      have HFR : Hid (((fill xs k j 0).set k (pk 0 6 0 0 false false)).set (k + 1) (j : Int) = freeR xs k j) := freeR_set (by omega) h2
      clear Or Br hO
      go_wp2_with fail
      refine (l2Packed_ok 0 6 0 0 false false wr hok6).mono ?_
      rintro e w2 ⟨rfl, hw2⟩
      have O2 : w2.ownsRow base 2 1 (.slice (some ⟨g, 0, none⟩) len cap) len (cellsOf (fill xs k j 0)) := by rw [hw2]; exact World.ownsRow.alloc HO.out _
      have B2 : w.grownBy w2 (some g) := by rw [hw2]; exact grown_two HB.out (World.grownBy_alloc _ _ _)
      clear hw2 HO HB
      have hfl : (fill xs k j 0).length = len := by rw [fill_length (by omega)]; exact hx
      have c0 := World.ownsRow.cellAt O2 k (by omega)
      have c1 := World.ownsRow.frozenAt O2 k
      have S := (World.ownsRow.stored O2 k (.int .i64 (pk 0 6 0 0 false false))).1
      have d0 := World.ownsRow.cellAt S (k + 1) (by omega)
      have d1 := World.ownsRow.frozenAt S (k + 1)
      have S2 := (World.ownsRow.stored S (k + 1) (.int .i64 (j : Int))).1
      have e1 : ((cellsOf (fill xs k j 0)).set k (.int .i64 (pk 0 6 0 0 false false))).set (k + 1) (.int .i64 (j : Int)) = cellsOf (freeR xs k j) := by rw [← HFR.out]; simp [cellsOf, List.map_set]
      rw [e1] at S2
      have HO : Hid _ := S2
      have HB : Hid _ := grown_setG (grown_setG B2 k (.int .i64 (pk 0 6 0 0 false false))) (k + 1) (.int .i64 (j : Int))
      obtain ⟨y, hy'⟩ : ∃ y, (cellsOf (fill xs k j 0))[k]? = some y := ⟨_, List.getElem?_eq_getElem (by simp [hfl]; omega)⟩
      rw [hy'] at c0
      obtain ⟨y2, hy2⟩ : ∃ y, ((cellsOf (fill xs k j 0)).set k (.int .i64 (pk 0 6 0 0 false false)))[k + 1]? = some y := ⟨_, List.getElem?_eq_getElem (by simp [hfl]; omega)⟩
      rw [hy2] at d0
      clear O2 B2 S S2 e1 hy' hy2 hlt' hlt HFR
      go_wp2
      go_end0
      exact ⟨⟨_, rfl⟩, HO.out, HB.out⟩

theorem ownH_zero (w : World) (base : Nat) : OwnH w base (.slice none 0 0) (.slice none 0 0) (.slice none 0 0) (.slice none 0 0) hp0 := ⟨⟨World.ownsRow_nil _ _ _ _, World.ownsRow_nil _ _ _ _, World.ownsRow_nil _ _ _ _, World.ownsRow_nil _ _ _ _⟩, by decide⟩

end Go.Proofs.YtmmlghdffglocaaGreat.hp
namespace Go.Proofs.YtmmlghdffglocaaGreat.hp
open Go.RowKit rows heads words walks
set_option maxRecDepth 100000
set_option linter.unusedVariables false
set_option linter.unusedSimpArgs false

/-- The new heap, where its numbers are right. -/
def hMade (X Y : Nat) (z : Int) : Hp := ⟨X, Y, freeR (List.replicate (2 * X + Y) 0) (2 * X) Y, 0, 0, List.replicate 6 2, [], [], z⟩
/-- The heap that is made, between two roots: its block, its rows, the block of the answer. -/
def NewAt (n0 : Nat) (w wr : World) (q P L X Y : Nat) (z : Int) (v : Value) (k : Nat) (row : List Int) : Prop :=
  Nine wr P 26 (.int .i64 (X : Int)) (.int .i64 (Y : Int)) (.slice (some ⟨q, 0, none⟩) L L) (.int .i64 0) (.int .i64 0) v (.slice none 0 0) (.slice none 0 0) (.int .i64 z) ∧ rows.Own wr (P + 1) v (List.replicate k 2) ∧ Full wr q row ∧ Nine wr n0 26 (.int .i64 0) (.int .i64 0) (.slice none 0 0) (.int .i64 0) (.int .i64 0) (.slice none 0 0) (.slice none 0 0) (.slice none 0 0) (.int .i64 0) ∧ Below n0 w wr ∧ P + 1 ≤ wr.heap.size
theorem newAt_ch {S : List Nat} {n0 : Nat} {w wr wz : World} {q P L X Y : Nat} {z : Int} {v : Value} {k : Nat} {row : List Int} (h : NewAt n0 w wr q P L X Y z v k row) (hc : Ch S wr wz) (h1 : P ∉ S) (h2 : ∀ b ∈ blk v, b ∉ S) (h3 : q ∉ S) (h4 : n0 ∉ S) (h5 : ∀ b ∈ S, n0 ≤ b) (hn : n0 ≤ wr.heap.size) : NewAt n0 w wz q P L X Y z v k row :=
  ⟨nine_ch h.1 hc h1, row_ch h.2.1 hc h2, full_ch h.2.2.1 hc h3, nine_ch h.2.2.2.1 hc h4, h.2.2.2.2.1.trans (below_ch hc hn h5), Nat.le_trans h.2.2.2.2.2 hc.size⟩
/-- One root more. -/
theorem newAt_app {n0 : Nat} {w wr w' : World} {q P L X Y : Nat} {z : Int} {v v' : Value} {k : Nat} {row : List Int} (h : NewAt n0 w wr q P L X Y z v k row) (h0 : n0 < q) (h1 : q < P)
    (ho : w'.ownsRow (P + 1) 2 1 v' (k + 1) (cellsOf (List.replicate k 2) ++ [.int .i64 2])) (hg : (wr.alloc (.cells #[.int .i64 2] 2)).grownBy w' v.ownBlock) :
    w'.cell? ⟨P, 5, none⟩ = some v ∧ w'.frozen? ⟨P, 5, none⟩ = false ∧ NewAt n0 w (w'.setCell ⟨P, 5, none⟩ v') q P L X Y z v' (k + 1) row := by
  have C0 : Ch (blk v) wr (wr.alloc (.cells #[.int .i64 2] 2)) := ch_below ((Below.refl _ _).alloc (Nat.le_refl _) _)
  have C1 := C0.trans (ch_grown hg)
  have lt := blk_lt h.2.1
  have hb : ∀ b, b ≤ P → b ∉ blk v := fun b hb e => by have := (lt b e).1; omega
  have T1 := nine_ch h.1 C1 (hb P (Nat.le_refl _))
  have F1 := full_ch h.2.2.1 C1 (hb q (by omega))
  have Z1 := nine_ch h.2.2.2.1 C1 (hb n0 (by omega))
  have hn : n0 ≤ wr.heap.size := by have := h.2.2.2.2.2; omega
  have B1 := h.2.2.2.2.1.trans (below_ch C1 hn (fun b e => by have := (lt b e).1; omega))
  obtain ⟨⟨_, _, _, _, _⟩, ⟨k5, _, _, _⟩, kf⟩ := nine_cells T1
  have C2 := one_ch w' P 5 v'
  have e : cellsOf (List.replicate k 2) ++ [.int .i64 2] = cellsOf (List.replicate (k + 1) 2) := by simp [cellsOf, List.replicate_succ']
  rw [e] at ho
  have lt' := blk_lt ho
  refine ⟨k5, kf 5, nine_set5 T1 v', ?_, full_ch F1 C2 (by simp; omega), nine_ch Z1 C2 (by simp; omega), B1.setCell (p := ⟨P, 5, none⟩) (show n0 ≤ P by omega) _, ?_⟩
  · have O := row_ch ho C2 (fun b hb e => by have := (lt' b hb).1; simp at e; omega)
    exact own_row O (by simp)
  · have := C1.size
    have := h.2.2.2.2.2
    simp
    omega
/-- The answer. -/
theorem newAt_end {n0 : Nat} {w wr : World} {q P L X Y : Nat} {z : Int} {v : Value} (h : NewAt n0 w wr q P L X Y z v 6 (freeR (List.replicate L 0) (2 * X) Y)) (h0 : n0 < q) (h1 : q < P) (hL : 2 * X + Y = L) (hm : L ≤ 1048576) (hY : 2 ≤ Y) :
    ∃ Wz, Wz = (((((((((wr.setCell ⟨n0, 0, none⟩ (.int .i64 (X : Int))).setCell ⟨n0, 1, none⟩ (.int .i64 (Y : Int))).setCell ⟨n0, 2, none⟩ (.slice (some ⟨q, 0, none⟩) L L)).setCell ⟨n0, 3, none⟩ (.int .i64 0)).setCell ⟨n0, 4, none⟩ (.int .i64 0)).setCell ⟨n0, 5, none⟩ v).setCell ⟨n0, 6, none⟩ (.slice none 0 0)).setCell ⟨n0, 7, none⟩ (.slice none 0 0)).setCell ⟨n0, 8, none⟩ (.int .i64 z)) ∧ Nine Wz n0 26 (.int .i64 (X : Int)) (.int .i64 (Y : Int)) (.slice (some ⟨q, 0, none⟩) L L) (.int .i64 0) (.int .i64 0) v (.slice none 0 0) (.slice none 0 0) (.int .i64 z) ∧ OwnH Wz n0 (.slice (some ⟨q, 0, none⟩) L L) v (.slice none 0 0) (.slice none 0 0) (hMade X Y z) ∧ Below n0 w Wz := by
  obtain ⟨h1', h2', h3', h4', h5', h6'⟩ := h
  have C := nine_other (X := wr) (b := n0) (.int .i64 (X : Int)) (.int .i64 (Y : Int)) (.slice (some ⟨q, 0, none⟩) L L) (.int .i64 0) (.int .i64 0) v (.slice none 0 0) (.slice none 0 0) (.int .i64 z)
  have lt := blk_lt h2'
  have O2 := row_ch h2' C (fun b hb e => by have := (lt b hb).1; simp at e; omega)
  have F2 := full_ch h3' C (by simp; omega)
  have hfl : (freeR (List.replicate L (0 : Int)) (2 * X) Y).length = L := by rw [freeR_length (by simp; omega) hY]; simp
  refine ⟨_, rfl, nine_sets h4' _ _ _ _ _ _ _ _ _, ⟨⟨?_, ?_, World.ownsRow_nil _ _ _ _, World.ownsRow_nil _ _ _ _⟩, ?_⟩, nine_belows h5' (Nat.le_refl _) _ _ _ _ _ _ _ _ _⟩
  · show rows.Own _ n0 _ (freeR (List.replicate (2 * X + Y) 0) (2 * X) Y)
    rw [hL]
    have := full_own (base := n0) F2 (by omega) (by unfold maxLen; omega)
    rwa [hfl] at this
  · exact own_base O2 (by omega)
  · have e : hblk (.slice (some ⟨q, 0, none⟩) L L) v (.slice none 0 0) (.slice none 0 0) = [q] ++ blk v := by simp [hblk, blk, Value.ownBlock]
    rw [e, List.nodup_append]
    refine ⟨by simp, ?_, fun a ha b hb => ?_⟩
    · unfold blk; cases v.ownBlock <;> simp
    · rw [List.mem_singleton] at ha; have := (lt b hb).1; omega

end Go.Proofs.YtmmlghdffglocaaGreat.hp
namespace Go.Proofs.YtmmlghdffglocaaGreat.hp
open Go.RowKit rows heads words walks
set_option maxRecDepth 100000
set_option linter.unusedVariables false
set_option linter.unusedSimpArgs false

set_option maxHeartbeats 2000000 in
theorem evenWithin_any (x lo hi : Int) (hlo : 0 ≤ lo) (w : World) :
    Calls Tryz.prog 124 #[.int .i64 x, .int .i64 lo, .int .i64 hi] w fun e w' => e = .returned (.bool (evn lo hi x)) ∧ w' = w := by
  by_cases h1 : lo ≤ x
  · by_cases h2 : x ≤ hi
    · by_cases h3 : x % 2 = 0
      · have e : evn lo hi x = true := by simp [evn, inR, h1, h2, h3]
        rw [e]
        have m1 : (x.tmod 2 == 0) = true := by rw [Int.tmod_eq_emod_of_nonneg (by omega), h3]; rfl
        have m2 : (x % 2 == 0) = true := by rw [h3]; rfl
        clear e h3
        go_enter Tryz.func124, Tryz.ntmps124
        go_wp2
        go_ret
        exact ⟨rfl, rfl⟩
      · have h3' : x % 2 = 1 := by omega
        have e : evn lo hi x = false := by simp [evn, inR, h1, h2, h3']
        rw [e]
        have m1 : (x.tmod 2 == 0) = false := by rw [Int.tmod_eq_emod_of_nonneg (by omega), h3']; rfl
        have m2 : (x % 2 == 0) = false := by rw [h3']; rfl
        clear e h3 h3'
        go_enter Tryz.func124, Tryz.ntmps124
        go_wp2
        go_ret
        exact ⟨rfl, rfl⟩
    · have e : evn lo hi x = false := by simp [evn, inR, h2]
      rw [e]
      clear e
      go_enter Tryz.func124, Tryz.ntmps124
      go_wp2
      go_ret
      exact ⟨rfl, rfl⟩
  · have e : evn lo hi x = false := by simp [evn, inR, h1]
    rw [e]
    clear e
    go_enter Tryz.func124, Tryz.ntmps124
    go_wp2
    go_ret
    exact ⟨rfl, rfl⟩
theorem sizesOk_any (x y : Int) (w : World) :
    Calls Tryz.prog 104 #[.int .i64 x, .int .i64 y] w fun e w' => e = .returned (.bool (evn 8 200 x && evn 8 400 y)) ∧ w' = w := by
  have E1 := evenWithin_any x 8 200 (by decide)
  have E2 := evenWithin_any y 8 400 (by decide)
  cases d : evn 8 200 x
  · rw [d] at E1
    go_enter Tryz.func104, Tryz.ntmps104
    go_wp2_with (go_at_call 124; refine (E1 _).mono ?_; clear E1; rintro e w3 ⟨rfl, hw3⟩; rw [hw3]; clear hw3 w3)
    go_ret
    exact ⟨rfl, rfl⟩
  · rw [d] at E1
    go_enter Tryz.func104, Tryz.ntmps104
    go_wp2_with (first
      | (have hh := E1; clear hh; go_at_call 124; refine (E1 _).mono ?_; clear E1; rintro e w3 ⟨rfl, hw3⟩; rw [hw3]; clear hw3 w3)
      | (have hh := E2; clear hh; go_at_call 124; refine (E2 _).mono ?_; clear E2; rintro e w3 ⟨rfl, hw3⟩; rw [hw3]; clear hw3 w3))
    go_ret
    exact ⟨rfl, rfl⟩
theorem rowLength_any (X Y L : Nat) (hL : 2 * X + Y = L) (hm : L ≤ 1048576) (w : World) :
    Calls Tryz.prog 61 #[.int .i64 (X : Int), .int .i64 (Y : Int)] w fun e w' => e = .returned (.int .i64 (L : Int)) ∧ w' = w := by
  have b1 : X ≤ 1048576 := by omega
  have b2 : Y ≤ 1048576 := by omega
  have HL : Hid _ := hL
  clear hL
  go_enter Tryz.func61, Tryz.ntmps61
  go_wp2
  go_ret
  exact ⟨by rw [← HL.out]; go_num, rfl⟩
/-- A row of six, its first k words 2. -/
def six (k : Nat) : List Value := List.replicate k (.int .i64 2) ++ List.replicate (6 - k) (.int .i64 0)
theorem infoS : (Tryz.prog.info? 2).map (·.size) = some 1 := by kernel_rfl
theorem six_splice {k n : Nat} (h : k + n ≤ 6) : splice (six k) k (List.replicate n (.int .i64 2)) = six (k + n) := by
  apply List.ext_getElem?
  intro i
  simp only [splice, six, List.getElem?_append, List.length_take, List.getElem?_take, List.getElem?_replicate, List.length_append, List.length_replicate, List.getElem?_drop, List.length_drop]
  grind
theorem six_cells {W : World} {g k : Nat} (h : W.heap[g]? = some (.cells (six k).toArray 2 (0, 0))) (n : Nat) (hn : n ≤ k) (hk : k ≤ 6) :
    ∀ j v, (List.replicate n (Value.int .i64 2))[j]? = some v → W.cell? ((⟨g, 0, none⟩ : Addr).add j) = some v := by
  intro j v hj
  rw [List.getElem?_replicate] at hj
  split at hj
  · have e : (six k)[j]? = some (.int .i64 2) := by
      unfold six
      rw [List.getElem?_append_left (by simp; omega), List.getElem?_replicate, if_pos (by omega)]
    have e2 : (⟨g, 0, none⟩ : Addr).add j = ⟨g, j, none⟩ := by cases j <;> simp [Addr.add]
    rw [e2]
    simp [World.cell?, h, e]
    exact Option.some.inj hj
  · cases hj
theorem six_ones (n : Nat) : ∀ v ∈ List.replicate n (Value.int .i64 2), v.oneCell' = true := fun v hv => by rw [List.eq_of_mem_replicate hv]; rfl
theorem six_len (k : Nat) (hk : k ≤ 6) : (six k).length = 6 := by simp [six]; omega

end Go.Proofs.YtmmlghdffglocaaGreat.hp
namespace Go.Proofs.YtmmlghdffglocaaGreat.walks
open Go.RowKit rows heads words

/-- A place of a row. -/
abbrev Pl := Fin 1001
def pls (ys : List Int) : Nat → Nat → List Pl
  | 0, _ => []
  | n + 1, k => if h : k ≤ 1000 then (if chunk ys k = 0 then [] else ⟨k, by omega⟩ :: pls ys n (k + (chunk ys k).toNat)) else []
theorem pls_end {ys : List Int} {k : Nat} (n : Nat) (h : chunk ys k = 0) : pls ys n k = [] := by
  cases n with
  | zero => rfl
  | succ n =>
    unfold pls
    by_cases hk : k ≤ 1000
    · rw [dif_pos hk, if_pos h]
    · rw [dif_neg hk]
theorem pls_step {ys : List Int} {k : Nat} (n : Nat) (hk : k < 1001) (h : chunk ys k ≠ 0) : pls ys (n + 1) k = ⟨k, hk⟩ :: pls ys n (k + (chunk ys k).toNat) := by
  conv => lhs; unfold pls
  rw [dif_pos (by omega), if_neg h]
theorem pls_more (ys : List Int) (hl : ys.length ≤ 1000) : ∀ (n m k : Nat), ys.length - k ≤ n → ys.length - k ≤ m → pls ys n k = pls ys m k := by
  intro n
  induction n with
  | zero =>
    intro m k h _
    have := chunk_bounds ys k
    rw [pls_end _ (by omega), pls_end _ (by omega)]
  | succ n ih =>
    intro m k h h'
    have := chunk_bounds ys k
    by_cases h0 : chunk ys k = 0
    · rw [pls_end _ h0, pls_end _ h0]
    · obtain ⟨m', rfl⟩ : ∃ m', m = m' + 1 := ⟨m - 1, by omega⟩
      rw [pls_step n (by omega) h0, pls_step m' (by omega) h0, ih m' _ (by omega) (by omega)]
/-- The places of chunks from k on, as far as there are any. -/
def plO (ys : List Int) (k : Nat) : List Pl := pls ys (ys.length - k) k
theorem plO_end {ys : List Int} {k : Nat} (h : chunk ys k = 0) : plO ys k = [] := pls_end _ h
theorem plO_step {ys : List Int} {k : Nat} (hl : ys.length ≤ 1000) (hk : k < 1001) (h : chunk ys k ≠ 0) : plO ys k = ⟨k, hk⟩ :: plO ys (k + (chunk ys k).toNat) := by
  have := chunk_bounds ys k
  unfold plO
  obtain ⟨m, hm⟩ : ∃ m, ys.length - k = m + 1 := ⟨ys.length - k - 1, by omega⟩
  rw [hm, pls_step m hk h, pls_more ys hl m (ys.length - (k + (chunk ys k).toNat)) _ (by omega) (by omega)]
theorem pls_length (ys : List Int) : ∀ (n k : Nat), (pls ys n k).length ≤ n := by
  intro n
  induction n with
  | zero => intro k; simp [pls]
  | succ n ih =>
    intro k
    unfold pls
    split
    · split
      · simp
      · have := ih (k + (chunk ys k).toNat); simp; omega
    · simp
theorem plO_length (ys : List Int) (k : Nat) : (plO ys k).length ≤ ys.length := Nat.le_trans (pls_length ys _ _) (by omega)

/-- Where the last one ended. -/
def enf (ys : List Int) (e : Int) (l : List Pl) : Int := l.foldl (fun _ x => (x.val : Int) + chunk ys x.val) e
theorem enf_snoc (ys : List Int) (e : Int) (l : List Pl) (x : Pl) : enf ys e (l ++ [x]) = (x.val : Int) + chunk ys x.val := by simp [enf]
theorem enf_cons (ys : List Int) (e : Int) (x : Pl) (l : List Pl) : enf ys e (x :: l) = enf ys ((x.val : Int) + chunk ys x.val) l := rfl

/-- What is cut off behind t has just the chunks that end by t. -/
theorem chunk_take {xs : List Int} {k t : Nat} (hk : k < t) (ht : t ≤ xs.length) : chunk (xs.take t) k = if chunk xs k = 0 ∨ (k : Int) + chunk xs k > t then 0 else chunk xs k := by
  have e0 : (xs.take t).getD k 0 = xs.getD k 0 := by simp [List.getD_eq_getElem?_getD, hk]
  have e1 : k + 1 < t → (xs.take t).getD (k + 1) 0 = xs.getD (k + 1) 0 := fun h => by simp [List.getD_eq_getElem?_getD, h]
  have el : (xs.take t).length = t := by simp; omega
  have bs := uS_bounds (xs.getD k 0)
  have zs := sz_bounds bs.1 bs.2
  unfold chunk
  rw [e0, el]
  by_cases ho : (ok (xs.getD k 0) && !uM (xs.getD k 0)) = true
  · simp only [if_pos ho]
    by_cases h6 : uF (xs.getD k 0) = 6
    · simp only [if_pos h6]
      by_cases hk1 : k + 1 < t
      · rw [e1 hk1]
        have hk2 : k + 1 < xs.length := by omega
        generalize xs.getD (k + 1) 0 = y
        by_cases hf : freeOk t k y = true
        · have hf' := hf
          simp only [freeOk, decide_eq_true_eq] at hf'
          have hg : freeOk xs.length k y = true := by simp only [freeOk, decide_eq_true_eq]; omega
          have L : (if k + 1 < t ∧ freeOk t k y = true then y else 0) = y := if_pos ⟨hk1, hf⟩
          have R : (if k + 1 < xs.length ∧ freeOk xs.length k y = true then y else 0) = y := if_pos ⟨hk2, hg⟩
          rw [L, R, if_neg]
          omega
        · have L : (if k + 1 < t ∧ freeOk t k y = true then y else 0) = 0 := if_neg (fun h => hf h.2)
          simp only [freeOk, decide_eq_true_eq] at hf
          by_cases hg : freeOk xs.length k y = true
          · have hg' := hg
            simp only [freeOk, decide_eq_true_eq] at hg'
            have R : (if k + 1 < xs.length ∧ freeOk xs.length k y = true then y else 0) = y := if_pos ⟨hk2, hg⟩
            rw [L, R, if_pos]
            omega
          · have R : (if k + 1 < xs.length ∧ freeOk xs.length k y = true then y else 0) = 0 := if_neg (fun h => hg h.2)
            rw [L, R, if_pos (.inl rfl)]
      · generalize (xs.take t).getD (k + 1) 0 = y'
        generalize xs.getD (k + 1) 0 = y
        have L : (if k + 1 < t ∧ freeOk t k y' = true then y' else 0) = 0 := if_neg (fun h => hk1 h.1)
        rw [L]
        by_cases hg : k + 1 < xs.length ∧ freeOk xs.length k y = true
        · have hg' := hg.2
          simp only [freeOk, decide_eq_true_eq] at hg'
          have R : (if k + 1 < xs.length ∧ freeOk xs.length k y = true then y else 0) = y := if_pos hg
          rw [R, if_pos]
          omega
        · have R : (if k + 1 < xs.length ∧ freeOk xs.length k y = true then y else 0) = 0 := if_neg hg
          rw [R, if_pos (.inl rfl)]
    · simp only [if_neg h6]
      by_cases hc : (k : Int) + sz (uS (xs.getD k 0)) ≤ t
      · rw [e1 (by omega)]
        generalize sz (uS (xs.getD k 0)) = z at *
        by_cases h7 : uF (xs.getD k 0) = 7 → isA (xs.getD (k + 1) 0) = true
        · have L : (if (k : Int) + z ≤ t ∧ (uF (xs.getD k 0) = 7 → isA (xs.getD (k + 1) 0) = true) then z else 0) = z := if_pos ⟨hc, h7⟩
          have R : (if (k : Int) + z ≤ xs.length ∧ (uF (xs.getD k 0) = 7 → isA (xs.getD (k + 1) 0) = true) then z else 0) = z := if_pos ⟨by omega, h7⟩
          rw [L, R, if_neg]
          omega
        · have L : (if (k : Int) + z ≤ t ∧ (uF (xs.getD k 0) = 7 → isA (xs.getD (k + 1) 0) = true) then z else 0) = 0 := if_neg (fun h => h7 h.2)
          have R : (if (k : Int) + z ≤ xs.length ∧ (uF (xs.getD k 0) = 7 → isA (xs.getD (k + 1) 0) = true) then z else 0) = 0 := if_neg (fun h => h7 h.2)
          rw [L, R, if_pos (.inl rfl)]
      · generalize sz (uS (xs.getD k 0)) = z at *
        generalize (xs.take t).getD (k + 1) 0 = y'
        have L : (if (k : Int) + z ≤ t ∧ (uF (xs.getD k 0) = 7 → isA y' = true) then z else 0) = 0 := if_neg (fun h => hc h.1)
        rw [L]
        by_cases hg : (k : Int) + z ≤ xs.length ∧ (uF (xs.getD k 0) = 7 → isA (xs.getD (k + 1) 0) = true)
        · have R : (if (k : Int) + z ≤ xs.length ∧ (uF (xs.getD k 0) = 7 → isA (xs.getD (k + 1) 0) = true) then z else 0) = z := if_pos hg
          rw [R, if_pos]
          omega
        · have R : (if (k : Int) + z ≤ xs.length ∧ (uF (xs.getD k 0) = 7 → isA (xs.getD (k + 1) 0) = true) then z else 0) = 0 := if_neg hg
          rw [R, if_pos (.inl rfl)]
  · simp only [if_neg ho]; simp

theorem walk_by {xs : List Int} {t : Nat} (ht : t ≤ xs.length) (hm : t ≤ 1000) : ∀ (n k : Nat), t - k ≤ n → k ≤ t →
    walkO xs k t = if enf (xs.take t) k (plO (xs.take t) k) = t then some ((plO (xs.take t) k).map (fun p => (p.val : Int))) else none := by
  have el : (xs.take t).length = t := by simp; omega
  intro n
  induction n with
  | zero =>
    intro k h1 h2
    have ek : k = t := by omega
    subst ek
    have := chunk_bounds (xs.take k) k
    rw [walkO_end (by omega), plO_end (by omega)]
    simp [enf]
  | succ n ih =>
    intro k h1 h2
    by_cases hk : k < t
    · have ct := chunk_take hk ht
      by_cases hb : chunk xs k = 0 ∨ (k : Int) + chunk xs k > t
      · rw [if_pos hb] at ct
        rw [walkO_bad hk hb, plO_end ct, if_neg]
        simp [enf]; omega
      · rw [if_neg hb] at ct
        have := chunk_bounds xs k
        rw [walkO_step hk hb, plO_step (by omega) (show k < 1001 by omega) (by omega), enf_cons, ct, ih _ (by omega) (by omega)]
        have e : ((k : Int) + chunk xs k) = ((k + (chunk xs k).toNat : Nat) : Int) := by omega
        rw [e]
        split <;> simp
    · have ek : k = t := by omega
      subst ek
      have := chunk_bounds (xs.take k) k
      rw [walkO_end hk, plO_end (by omega)]
      simp [enf]
end Go.Proofs.YtmmlghdffglocaaGreat.walks
