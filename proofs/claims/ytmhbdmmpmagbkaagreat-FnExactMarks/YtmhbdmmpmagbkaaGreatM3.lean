/-
  Chapter 8 as the specification has it: a free chunk written, what is freed. Chapter 9: a new heap; by the specification and by the program. Chapter 9: a new heap, where its numbers are right; by the specification. Chapter 9: what the program's NewHeap leans on: even numbers within bounds, a row of six words. Chapter 9 as the program has it: the numbers of a heap. The places that the program's chunks hands out, as a list; a walk told by them. What the program's chunks hands out, round by round: for every loop body that keeps the row, its box and the chunks in memory. What the program's Walk answers. Lists of chunks that know their places, in memory. Chapter 9 as the program has it: the chunks of a piece of a row, with their places. Chapter 9 as the program has it: chunks that may not stand in the room; words that are all 0. Chapter 9 as the program has it: the first free chunk; a chunk stored into a row. Chapter 9 as the program has it: free chunks left out (slices.DeleteFunc).
-/
import Derived.Test.YtmhbdmmpmagbkaaGreatM1
import Derived.Test.YtmhbdmmpmagbkaaGreatObjS2
import Derived.Test.YtmhbdmmpmagbkaaGreatM2
import Derived.Test.YtmhbdmmpmagbkaaGreatClassS
import Derived.Deep.Upon
import Derived.Lib.Hide
import Derived.Maps.AppendAt
import Derived.Deep.RegionLaw
import Derived.RangeFuncNested
import Derived.RangeFuncCalls
import Derived.RangeFuncLeaves
import Derived.Shelf.Abstract
import Derived.WalkKit
import Derived.OwnWalkIn
import Derived.TacticsInMore
import Derived.LoopNIn
import Derived.LoopIn
import Derived.Maps.OwnIn
namespace Go.Proofs.YtmhbdmmpmagbkaaGreat.walks
open Go.RowKit rows heads words
set_option maxRecDepth 100000

end Go.Proofs.YtmhbdmmpmagbkaaGreat.walks
namespace Go.Proofs.YtmhbdmmpmagbkaaGreat.hp
open Go.RowKit rows heads words walks
set_option maxRecDepth 100000
set_option linter.unusedVariables false
set_option linter.unusedSimpArgs false

/-- An even number within bounds. -/
def evn (lo hi x : Int) : Bool := inR lo hi x && decide (x % 2 = 0)
/-- Are these the sizes and the seed of a heap? -/
def nOk (x y z : Int) : Bool := evn 8 200 x && evn 8 400 y && inR 0 65535 z
def hp0 : Hp := ⟨0, 0, [], 0, 0, [], [], [], 0⟩
/-- A new heap. -/
def hNew (x y z : Int) : Hp × Bool := if nOk x y z = true then (⟨x, y, freeR (List.replicate (2 * x + y).toNat 0) (2 * x).toNat y.toNat, 0, 0, List.replicate 6 2, [], [], z⟩, true) else (hp0, false)
theorem inR_true {lo hi x : Int} (h : inR lo hi x = true) : lo ≤ x ∧ x ≤ hi := by simpa [inR] using h
theorem inR_false {lo hi x : Int} (h : inR lo hi x = false) : ¬ (lo ≤ x ∧ x ≤ hi) := by simpa [inR] using h
theorem evn_true {lo hi x : Int} (h : evn lo hi x = true) : lo ≤ x ∧ x ≤ hi ∧ x % 2 = 0 := by
  simp only [evn, Bool.and_eq_true, decide_eq_true_eq] at h
  exact ⟨(inR_true h.1).1, (inR_true h.1).2, h.2⟩
theorem fill_zeros {L k n : Nat} (h : k + n ≤ L) : fill (List.replicate L (0 : Int)) k n 0 = List.replicate L 0 := by
  apply List.ext_getElem?
  intro i
  simp only [fill, List.getElem?_append, List.length_take, List.getElem?_take, List.getElem?_replicate, List.length_append, List.length_replicate, List.getElem?_drop, List.length_drop]
  grind
theorem hR_NewH (x y z : Int) : hpSize (hNew x y z).1 ≤ 1048576 := by
  unfold hNew
  split
  · rename_i h
    simp only [nOk, Bool.and_eq_true] at h
    have e1 := evn_true h.1.1
    have e2 := evn_true h.1.2
    unfold hpSize
    rw [freeR_length (by simp; omega) (by omega)]
    simp
    omega
  · decide

theorem ownH_zero (w : World) (base : Nat) : OwnH w base (.slice none 0 0) (.slice none 0 0) (.slice none 0 0) (.slice none 0 0) hp0 := ⟨⟨World.ownsRow_nil _ _ _ _, World.ownsRow_nil _ _ _ _, World.ownsRow_nil _ _ _ _, World.ownsRow_nil _ _ _ _⟩, by decide⟩

end Go.Proofs.YtmhbdmmpmagbkaaGreat.hp
namespace Go.Proofs.YtmhbdmmpmagbkaaGreat.hp
open Go.RowKit rows heads words walks
set_option maxRecDepth 100000
set_option linter.unusedVariables false
set_option linter.unusedSimpArgs false

/-- The new heap, where its numbers are right. -/
def hMade (X Y : Nat) (z : Int) : Hp := ⟨X, Y, freeR (List.replicate (2 * X + Y) 0) (2 * X) Y, 0, 0, List.replicate 6 2, [], [], z⟩
/-- The heap that is made, between two roots: its block, its rows, the block of the answer. -/
def NewAt (n0 : Nat) (w wr : World) (q P L X Y : Nat) (z : Int) (v : Value) (k : Nat) (row : List Int) : Prop :=
  Nine wr P 31 (.int .i64 (X : Int)) (.int .i64 (Y : Int)) (.slice (some ⟨q, 0, none⟩) L L) (.int .i64 0) (.int .i64 0) v (.slice none 0 0) (.slice none 0 0) (.int .i64 z) ∧ rows.Own wr (P + 1) v (List.replicate k 2) ∧ Full wr q row ∧ Nine wr n0 31 (.int .i64 0) (.int .i64 0) (.slice none 0 0) (.int .i64 0) (.int .i64 0) (.slice none 0 0) (.slice none 0 0) (.slice none 0 0) (.int .i64 0) ∧ Below n0 w wr ∧ P + 1 ≤ wr.heap.size
theorem newAt_ch {S : List Nat} {n0 : Nat} {w wr wz : World} {q P L X Y : Nat} {z : Int} {v : Value} {k : Nat} {row : List Int} (h : NewAt n0 w wr q P L X Y z v k row) (hc : Ch S wr wz) (h1 : P ∉ S) (h2 : ∀ b ∈ blk v, b ∉ S) (h3 : q ∉ S) (h4 : n0 ∉ S) (h5 : ∀ b ∈ S, n0 ≤ b) (hn : n0 ≤ wr.heap.size) : NewAt n0 w wz q P L X Y z v k row :=
  ⟨nine_ch h.1 hc h1, row_ch h.2.1 hc h2, full_ch h.2.2.1 hc h3, nine_ch h.2.2.2.1 hc h4, h.2.2.2.2.1.trans (below_ch hc hn h5), Nat.le_trans h.2.2.2.2.2 hc.size⟩
/-- One root more. -/
theorem newAt_app {n0 : Nat} {w wr w' : World} {q P L X Y : Nat} {z : Int} {v v' : Value} {k : Nat} {row : List Int} (h : NewAt n0 w wr q P L X Y z v k row) (h0 : n0 < q) (h1 : q < P)
    (ho : w'.ownsRow (P + 1) 2 1 v' (k + 1) (cellsOf (List.replicate k 2) ++ [.int .i64 2])) (hg : (wr.alloc (.cells #[.int .i64 2] 2)).grownBy w' v.ownBlock) :
    w'.cell? ⟨P, 5, none⟩ = some v ∧ w'.frozen? ⟨P, 5, none⟩ = false ∧ NewAt n0 w (w'.setCell ⟨P, 5, none⟩ v') q P L X Y z v' (k + 1) row := by
  have C0 : Ch (blk v) wr (wr.alloc (.cells #[.int .i64 2] 2)) := ch_below ((Below.refl _ _).alloc (Nat.le_refl _) _)
  have C1 := C0.trans (ch_grown hg)
  have lt := blk_lt h.2.1
  have hb : ∀ b, b ≤ P → b ∉ blk v := fun b hb e => by have := (lt b e).1; omega
  have T1 := nine_ch h.1 C1 (hb P (Nat.le_refl _))
  have F1 := full_ch h.2.2.1 C1 (hb q (by omega))
  have Z1 := nine_ch h.2.2.2.1 C1 (hb n0 (by omega))
  have hn : n0 ≤ wr.heap.size := by have := h.2.2.2.2.2; omega
  have B1 := h.2.2.2.2.1.trans (below_ch C1 hn (fun b e => by have := (lt b e).1; omega))
  obtain ⟨⟨_, _, _, _, _⟩, ⟨k5, _, _, _⟩, kf⟩ := nine_cells T1
  have C2 := one_ch w' P 5 v'
  have e : cellsOf (List.replicate k 2) ++ [.int .i64 2] = cellsOf (List.replicate (k + 1) 2) := by simp [cellsOf, List.replicate_succ']
  rw [e] at ho
  have lt' := blk_lt ho
  refine ⟨k5, kf 5, nine_set5 T1 v', ?_, full_ch F1 C2 (by simp; omega), nine_ch Z1 C2 (by simp; omega), B1.setCell (p := ⟨P, 5, none⟩) (show n0 ≤ P by omega) _, ?_⟩
  · have O := row_ch ho C2 (fun b hb e => by have := (lt' b hb).1; simp at e; omega)
    exact own_row O (by simp)
  · have := C1.size
    have := h.2.2.2.2.2
    simp
    omega
/-- The answer. -/
theorem newAt_end {n0 : Nat} {w wr : World} {q P L X Y : Nat} {z : Int} {v : Value} (h : NewAt n0 w wr q P L X Y z v 6 (freeR (List.replicate L 0) (2 * X) Y)) (h0 : n0 < q) (h1 : q < P) (hL : 2 * X + Y = L) (hm : L ≤ 1048576) (hY : 2 ≤ Y) :
    ∃ Wz, Wz = (((((((((wr.setCell ⟨n0, 0, none⟩ (.int .i64 (X : Int))).setCell ⟨n0, 1, none⟩ (.int .i64 (Y : Int))).setCell ⟨n0, 2, none⟩ (.slice (some ⟨q, 0, none⟩) L L)).setCell ⟨n0, 3, none⟩ (.int .i64 0)).setCell ⟨n0, 4, none⟩ (.int .i64 0)).setCell ⟨n0, 5, none⟩ v).setCell ⟨n0, 6, none⟩ (.slice none 0 0)).setCell ⟨n0, 7, none⟩ (.slice none 0 0)).setCell ⟨n0, 8, none⟩ (.int .i64 z)) ∧ Nine Wz n0 31 (.int .i64 (X : Int)) (.int .i64 (Y : Int)) (.slice (some ⟨q, 0, none⟩) L L) (.int .i64 0) (.int .i64 0) v (.slice none 0 0) (.slice none 0 0) (.int .i64 z) ∧ OwnH Wz n0 (.slice (some ⟨q, 0, none⟩) L L) v (.slice none 0 0) (.slice none 0 0) (hMade X Y z) ∧ Below n0 w Wz := by
  obtain ⟨h1', h2', h3', h4', h5', h6'⟩ := h
  have C := nine_other (X := wr) (b := n0) (.int .i64 (X : Int)) (.int .i64 (Y : Int)) (.slice (some ⟨q, 0, none⟩) L L) (.int .i64 0) (.int .i64 0) v (.slice none 0 0) (.slice none 0 0) (.int .i64 z)
  have lt := blk_lt h2'
  have O2 := row_ch h2' C (fun b hb e => by have := (lt b hb).1; simp at e; omega)
  have F2 := full_ch h3' C (by simp; omega)
  have hfl : (freeR (List.replicate L (0 : Int)) (2 * X) Y).length = L := by rw [freeR_length (by simp; omega) hY]; simp
  refine ⟨_, rfl, nine_sets h4' _ _ _ _ _ _ _ _ _, ⟨⟨?_, ?_, World.ownsRow_nil _ _ _ _, World.ownsRow_nil _ _ _ _⟩, ?_⟩, nine_belows h5' (Nat.le_refl _) _ _ _ _ _ _ _ _ _⟩
  · show rows.Own _ n0 _ (freeR (List.replicate (2 * X + Y) 0) (2 * X) Y)
    rw [hL]
    have := full_own (base := n0) F2 (by omega) (by unfold maxLen; omega)
    rwa [hfl] at this
  · exact own_base O2 (by omega)
  · have e : hblk (.slice (some ⟨q, 0, none⟩) L L) v (.slice none 0 0) (.slice none 0 0) = [q] ++ blk v := by simp [hblk, blk, Value.ownBlock]
    rw [e, List.nodup_append]
    refine ⟨by simp, ?_, fun a ha b hb => ?_⟩
    · unfold blk; cases v.ownBlock <;> simp
    · rw [List.mem_singleton] at ha; have := (lt b hb).1; omega

end Go.Proofs.YtmhbdmmpmagbkaaGreat.hp
namespace Go.Proofs.YtmhbdmmpmagbkaaGreat.hp
open Go.RowKit rows heads words walks
set_option maxRecDepth 100000
set_option linter.unusedVariables false
set_option linter.unusedSimpArgs false

set_option maxHeartbeats 2000000 in
theorem evenWithin_any (x lo hi : Int) (hlo : 0 ≤ lo) (w : World) :
    Calls Tryz.prog 147 #[.int .i64 x, .int .i64 lo, .int .i64 hi] w fun e w' => e = .returned (.bool (evn lo hi x)) ∧ w' = w := by
  by_cases h1 : lo ≤ x
  · by_cases h2 : x ≤ hi
    · by_cases h3 : x % 2 = 0
      · have e : evn lo hi x = true := by simp [evn, inR, h1, h2, h3]
        rw [e]
        have m1 : (x.tmod 2 == 0) = true := by rw [Int.tmod_eq_emod_of_nonneg (by omega), h3]; rfl
        have m2 : (x % 2 == 0) = true := by rw [h3]; rfl
        clear e h3
        go_enter Tryz.func147, Tryz.ntmps147
        go_wp2
        go_ret
        exact ⟨rfl, rfl⟩
      · have h3' : x % 2 = 1 := by omega
        have e : evn lo hi x = false := by simp [evn, inR, h1, h2, h3']
        rw [e]
        have m1 : (x.tmod 2 == 0) = false := by rw [Int.tmod_eq_emod_of_nonneg (by omega), h3']; rfl
        have m2 : (x % 2 == 0) = false := by rw [h3']; rfl
        clear e h3 h3'
        go_enter Tryz.func147, Tryz.ntmps147
        go_wp2
        go_ret
        exact ⟨rfl, rfl⟩
    · have e : evn lo hi x = false := by simp [evn, inR, h2]
      rw [e]
      clear e
      go_enter Tryz.func147, Tryz.ntmps147
      go_wp2
      go_ret
      exact ⟨rfl, rfl⟩
  · have e : evn lo hi x = false := by simp [evn, inR, h1]
    rw [e]
    clear e
    go_enter Tryz.func147, Tryz.ntmps147
    go_wp2
    go_ret
    exact ⟨rfl, rfl⟩
theorem sizesOk_any (x y : Int) (w : World) :
    Calls Tryz.prog 116 #[.int .i64 x, .int .i64 y] w fun e w' => e = .returned (.bool (evn 8 200 x && evn 8 400 y)) ∧ w' = w := by
  have E1 := evenWithin_any x 8 200 (by decide)
  have E2 := evenWithin_any y 8 400 (by decide)
  cases d : evn 8 200 x
  · rw [d] at E1
    go_enter Tryz.func116, Tryz.ntmps116
    go_wp2_with (go_at_call 147; refine (E1 _).mono ?_; clear E1; rintro e w3 ⟨rfl, hw3⟩; rw [hw3]; clear hw3 w3)
    go_ret
    exact ⟨rfl, rfl⟩
  · rw [d] at E1
    go_enter Tryz.func116, Tryz.ntmps116
    go_wp2_with (first
      | (have hh := E1; clear hh; go_at_call 147; refine (E1 _).mono ?_; clear E1; rintro e w3 ⟨rfl, hw3⟩; rw [hw3]; clear hw3 w3)
      | (have hh := E2; clear hh; go_at_call 147; refine (E2 _).mono ?_; clear E2; rintro e w3 ⟨rfl, hw3⟩; rw [hw3]; clear hw3 w3))
    go_ret
    exact ⟨rfl, rfl⟩
theorem rowLength_any (X Y L : Nat) (hL : 2 * X + Y = L) (hm : L ≤ 1048576) (w : World) :
    Calls Tryz.prog 117 #[.int .i64 (X : Int), .int .i64 (Y : Int)] w fun e w' => e = .returned (.int .i64 (L : Int)) ∧ w' = w := by
  have b1 : X ≤ 1048576 := by omega
  have b2 : Y ≤ 1048576 := by omega
  have HL : Hid _ := hL
  clear hL
  go_enter Tryz.func117, Tryz.ntmps117
  go_wp2
  go_ret
  exact ⟨by rw [← HL.out]; go_num, rfl⟩
/-- A row of six, its first k words 2. -/
def six (k : Nat) : List Value := List.replicate k (.int .i64 2) ++ List.replicate (6 - k) (.int .i64 0)
theorem infoS : (Tryz.prog.info? 2).map (·.size) = some 1 := by kernel_rfl
theorem six_splice {k n : Nat} (h : k + n ≤ 6) : splice (six k) k (List.replicate n (.int .i64 2)) = six (k + n) := by
  apply List.ext_getElem?
  intro i
  simp only [splice, six, List.getElem?_append, List.length_take, List.getElem?_take, List.getElem?_replicate, List.length_append, List.length_replicate, List.getElem?_drop, List.length_drop]
  grind
theorem six_cells {W : World} {g k : Nat} (h : W.heap[g]? = some (.cells (six k).toArray 2 (0, 0))) (n : Nat) (hn : n ≤ k) (hk : k ≤ 6) :
    ∀ j v, (List.replicate n (Value.int .i64 2))[j]? = some v → W.cell? ((⟨g, 0, none⟩ : Addr).add j) = some v := by
  intro j v hj
  rw [List.getElem?_replicate] at hj
  split at hj
  · have e : (six k)[j]? = some (.int .i64 2) := by
      unfold six
      rw [List.getElem?_append_left (by simp; omega), List.getElem?_replicate, if_pos (by omega)]
    have e2 : (⟨g, 0, none⟩ : Addr).add j = ⟨g, j, none⟩ := by cases j <;> simp [Addr.add]
    rw [e2]
    simp [World.cell?, h, e]
    exact Option.some.inj hj
  · cases hj
theorem six_ones (n : Nat) : ∀ v ∈ List.replicate n (Value.int .i64 2), v.oneCell' = true := fun v hv => by rw [List.eq_of_mem_replicate hv]; rfl
theorem six_len (k : Nat) (hk : k ≤ 6) : (six k).length = 6 := by simp [six]; omega

end Go.Proofs.YtmhbdmmpmagbkaaGreat.hp
namespace Go.Proofs.YtmhbdmmpmagbkaaGreat.hp
open Go.RowKit rows heads words walks region
set_option maxRecDepth 100000
set_option linter.unusedVariables false
set_option linter.unusedSimpArgs false

/-- Are side and top right? -/
def sideB (H : Hp) : Bool := (H.side == 0 || H.side == 1) && (decide (0 ≤ H.top) && decide (H.top ≤ H.half))
/-- Are the numbers right? -/
def numB (H : Hp) : Bool := (evn 8 200 H.half && evn 8 400 H.old) && ((H.row.length : Int) == 2 * H.half + H.old) && sideB H && inR 0 65535 H.seed
theorem rowLength_int {x y : Int} (hx : 0 ≤ x ∧ x ≤ 1000) (hy : 0 ≤ y ∧ y ≤ 1000) (w : World) :
    Calls Tryz.prog 117 #[.int .i64 x, .int .i64 y] w fun e w' => e = .returned (.int .i64 (2 * x + y)) ∧ w' = w := by
  obtain ⟨X, rfl⟩ := Int.eq_ofNat_of_zero_le hx.1
  obtain ⟨Y, rfl⟩ := Int.eq_ofNat_of_zero_le hy.1
  exact (rowLength_any X Y (2 * X + Y) rfl (by omega) w).mono fun e w' ⟨he, hw⟩ => ⟨by rw [he]; congr 2, hw⟩
set_option maxHeartbeats 4000000 in
theorem sideOk_any {w : World} {vr vo vm vs : Value} {H : Hp} (h : HpAt w vr vo vm vs H) :
    Calls Tryz.prog 118 #[hpv H vr vo vm vs] w fun e w' => e = .returned (.bool (sideB H)) ∧ Below w.heap.size w w' := by
  obtain ⟨a1, c1, a2, c2, a3, c3, a4, c4, e1, e2, e3, e4⟩ := hpAt_slices h
  subst e1 e2 e3 e4
  have B0 : Below w.heap.size w (w.alloc (hpb H (.slice a1 H.row.length c1) (.slice a2 H.roots.length c2) (.slice a3 H.mourned.length c3) (.slice a4 H.seen.length c4))) := (Below.refl _ _).alloc (Nat.le_refl _) _
  have T0 := nine_new w H (.slice a1 H.row.length c1) (.slice a2 H.roots.length c2) (.slice a3 H.mourned.length c3) (.slice a4 H.seen.length c4)
  have HB0 : Hid _ := B0
  obtain ⟨⟨z0, z1, z2, z3, z4⟩, ⟨z5, z6, z7, z8⟩, _⟩ := nine_cells T0
  have key : (H.side == 0) = true ∨ ((H.side == 0) = false ∧ (H.side == 1) = true) ∨ ((H.side == 0) = false ∧ (H.side == 1) = false) := by
    cases (H.side == 0) <;> cases (H.side == 1) <;> simp
  by_cases t1 : 0 ≤ H.top
  · by_cases t2 : H.top ≤ H.half
    · rcases key with k1 | ⟨k1, k2⟩ | ⟨k1, k2⟩
      · skip
        skip
        rw [show sideB H = true by unfold sideB; simp [*]]
        clear B0 T0 h
        go_enter Tryz.func118, Tryz.ntmps118
        go_wp2
        go_ret
        exact ⟨rfl, HB0.out⟩
      · skip
        skip
        rw [show sideB H = true by unfold sideB; simp [*]]
        clear B0 T0 h
        go_enter Tryz.func118, Tryz.ntmps118
        go_wp2
        go_ret
        exact ⟨rfl, HB0.out⟩
      · skip
        skip
        rw [show sideB H = false by unfold sideB; simp [*]]
        clear B0 T0 h
        go_enter Tryz.func118, Tryz.ntmps118
        go_wp2
        go_ret
        exact ⟨rfl, HB0.out⟩
    · rcases key with k1 | ⟨k1, k2⟩ | ⟨k1, k2⟩
      · skip
        skip
        rw [show sideB H = false by unfold sideB; simp [*]]
        clear B0 T0 h
        go_enter Tryz.func118, Tryz.ntmps118
        go_wp2
        go_ret
        exact ⟨rfl, HB0.out⟩
      · skip
        skip
        rw [show sideB H = false by unfold sideB; simp [*]]
        clear B0 T0 h
        go_enter Tryz.func118, Tryz.ntmps118
        go_wp2
        go_ret
        exact ⟨rfl, HB0.out⟩
      · skip
        skip
        rw [show sideB H = false by unfold sideB; simp [*]]
        clear B0 T0 h
        go_enter Tryz.func118, Tryz.ntmps118
        go_wp2
        go_ret
        exact ⟨rfl, HB0.out⟩
  · rcases key with k1 | ⟨k1, k2⟩ | ⟨k1, k2⟩
    · skip
      skip
      rw [show sideB H = false by unfold sideB; simp [*]]
      clear B0 T0 h
      go_enter Tryz.func118, Tryz.ntmps118
      go_wp2
      go_ret
      exact ⟨rfl, HB0.out⟩
    · skip
      skip
      rw [show sideB H = false by unfold sideB; simp [*]]
      clear B0 T0 h
      go_enter Tryz.func118, Tryz.ntmps118
      go_wp2
      go_ret
      exact ⟨rfl, HB0.out⟩
    · skip
      skip
      rw [show sideB H = false by unfold sideB; simp [*]]
      clear B0 T0 h
      go_enter Tryz.func118, Tryz.ntmps118
      go_wp2
      go_ret
      exact ⟨rfl, HB0.out⟩

set_option maxHeartbeats 8000000 in
theorem numbersOk_any {w : World} {vr vo vm vs : Value} {H : Hp} (h : HpAt w vr vo vm vs H) :
    Calls Tryz.prog 90 #[hpv H vr vo vm vs] w fun e w' => e = .returned (.bool (numB H)) ∧ Below w.heap.size w w' := by
  obtain ⟨a1, c1, a2, c2, a3, c3, a4, c4, e1, e2, e3, e4⟩ := hpAt_slices h
  subst e1 e2 e3 e4
  have B0 : Below w.heap.size w (w.alloc (hpb H (.slice a1 H.row.length c1) (.slice a2 H.roots.length c2) (.slice a3 H.mourned.length c3) (.slice a4 H.seen.length c4))) := (Below.refl _ _).alloc (Nat.le_refl _) _
  have T0 := nine_new w H (.slice a1 H.row.length c1) (.slice a2 H.roots.length c2) (.slice a3 H.mourned.length c3) (.slice a4 H.seen.length c4)
  have HB0 : Hid _ := B0
  cases p1 : (evn 8 200 H.half && evn 8 400 H.old)
  · skip
    skip
    rw [show numB H = false by unfold numB; simp [*]]
    have HSZ : Hid (∀ x : Ext (w.alloc (hpb H (.slice a1 H.row.length c1) (.slice a2 H.roots.length c2) (.slice a3 H.mourned.length c3) (.slice a4 H.seen.length c4))).heap.size (w.alloc (hpb H (.slice a1 H.row.length c1) (.slice a2 H.roots.length c2) (.slice a3 H.mourned.length c3) (.slice a4 H.seen.length c4))), Calls Tryz.prog 116 #[.int .i64 H.half, .int .i64 H.old] x.to fun e w'' => e = .returned (.bool false) ∧ ∃ y : Ext (w.alloc (hpb H (.slice a1 H.row.length c1) (.slice a2 H.roots.length c2) (.slice a3 H.mourned.length c3) (.slice a4 H.seen.length c4))).heap.size (w.alloc (hpb H (.slice a1 H.row.length c1) (.slice a2 H.roots.length c2) (.slice a3 H.mourned.length c3) (.slice a4 H.seen.length c4))), w'' = y.to) := fun x => calls_grow (Nat.le_refl _) ((sizesOk_any H.half H.old x.to).mono fun e w' ⟨he, hw⟩ => ⟨by rw [he, p1], by rw [hw]; exact Below.refl _ _⟩)
    obtain ⟨⟨z0, z1, z2, z3, z4⟩, ⟨z5, z6, z7, z8⟩⟩ := nine_grow T0
    clear B0 T0 h p1
    go_enter Tryz.func90, Tryz.ntmps90
    go_upto_region 1 with fail
    generalize (w.alloc (hpb H (.slice a1 H.row.length c1) (.slice a2 H.roots.length c2) (.slice a3 H.mourned.length c3) (.slice a4 H.seen.length c4))) = X at *
    haveI := ext_any X
    refine region_grow (n := X.heap.size) (by kernel_rfl) (by kernel_rfl) ?_
    repeat (go_big_quiet_step ((first | (go_at_call 116; exact HSZ.out _))))
    refine wpQuiet_nil ?_
    intro _ hw'
    obtain ⟨x, rfl⟩ := hw'
    have HBE : Hid _ := HB0.out.trans (x.below.mono HB0.out.size)
    clear z0 z1 z2 z3 z4 z5 z6 z7 z8
    generalize x.to = W at *
    clear x this
    go_wp2
    go_ret
    exact ⟨rfl, HBE.out⟩
  · have p1' := p1
    rw [Bool.and_eq_true] at p1'
    have q1 := evn_true p1'.1
    have q2 := evn_true p1'.2
    have hb1 : 0 ≤ H.half ∧ H.half ≤ 1000 := ⟨by omega, by omega⟩
    have hb2 : 0 ≤ H.old ∧ H.old ≤ 1000 := ⟨by omega, by omega⟩
    clear p1' q1 q2
    cases p2 : ((H.row.length : Int) == 2 * H.half + H.old)
    · skip
      skip
      rw [show numB H = false by unfold numB; simp [*]]
      have HSZ : Hid (∀ x : Ext (w.alloc (hpb H (.slice a1 H.row.length c1) (.slice a2 H.roots.length c2) (.slice a3 H.mourned.length c3) (.slice a4 H.seen.length c4))).heap.size (w.alloc (hpb H (.slice a1 H.row.length c1) (.slice a2 H.roots.length c2) (.slice a3 H.mourned.length c3) (.slice a4 H.seen.length c4))), Calls Tryz.prog 116 #[.int .i64 H.half, .int .i64 H.old] x.to fun e w'' => e = .returned (.bool true) ∧ ∃ y : Ext (w.alloc (hpb H (.slice a1 H.row.length c1) (.slice a2 H.roots.length c2) (.slice a3 H.mourned.length c3) (.slice a4 H.seen.length c4))).heap.size (w.alloc (hpb H (.slice a1 H.row.length c1) (.slice a2 H.roots.length c2) (.slice a3 H.mourned.length c3) (.slice a4 H.seen.length c4))), w'' = y.to) := fun x => calls_grow (Nat.le_refl _) ((sizesOk_any H.half H.old x.to).mono fun e w' ⟨he, hw⟩ => ⟨by rw [he, p1], by rw [hw]; exact Below.refl _ _⟩)
      have HRL : Hid (∀ x : Ext (w.alloc (hpb H (.slice a1 H.row.length c1) (.slice a2 H.roots.length c2) (.slice a3 H.mourned.length c3) (.slice a4 H.seen.length c4))).heap.size (w.alloc (hpb H (.slice a1 H.row.length c1) (.slice a2 H.roots.length c2) (.slice a3 H.mourned.length c3) (.slice a4 H.seen.length c4))), Calls Tryz.prog 117 #[.int .i64 H.half, .int .i64 H.old] x.to fun e w'' => e = .returned (.int .i64 (2 * H.half + H.old)) ∧ ∃ y : Ext (w.alloc (hpb H (.slice a1 H.row.length c1) (.slice a2 H.roots.length c2) (.slice a3 H.mourned.length c3) (.slice a4 H.seen.length c4))).heap.size (w.alloc (hpb H (.slice a1 H.row.length c1) (.slice a2 H.roots.length c2) (.slice a3 H.mourned.length c3) (.slice a4 H.seen.length c4))), w'' = y.to) := fun x => calls_grow (Nat.le_refl _) ((rowLength_int hb1 hb2 x.to).mono fun e w' ⟨he, hw⟩ => ⟨he, by rw [hw]; exact Below.refl _ _⟩)
      obtain ⟨⟨z0, z1, z2, z3, z4⟩, ⟨z5, z6, z7, z8⟩⟩ := nine_grow T0
      clear B0 T0 h p1
      go_enter Tryz.func90, Tryz.ntmps90
      go_upto_region 1 with fail
      generalize (w.alloc (hpb H (.slice a1 H.row.length c1) (.slice a2 H.roots.length c2) (.slice a3 H.mourned.length c3) (.slice a4 H.seen.length c4))) = X at *
      haveI := ext_any X
      refine region_grow (n := X.heap.size) (by kernel_rfl) (by kernel_rfl) ?_
      repeat (go_big_quiet_step ((first | (go_at_call 116; exact HSZ.out _) | (go_at_call 117; exact HRL.out _))))
      refine wpQuiet_nil ?_
      intro _ hw'
      obtain ⟨x, rfl⟩ := hw'
      have HBE : Hid _ := HB0.out.trans (x.below.mono HB0.out.size)
      clear z0 z1 z2 z3 z4 z5 z6 z7 z8
      generalize x.to = W at *
      clear x this
      go_wp2
      go_ret
      exact ⟨rfl, HBE.out⟩
    · cases p3 : sideB H
      · skip
        skip
        rw [show numB H = false by unfold numB; simp [*]]
        have HSZ : Hid (∀ x : Ext (w.alloc (hpb H (.slice a1 H.row.length c1) (.slice a2 H.roots.length c2) (.slice a3 H.mourned.length c3) (.slice a4 H.seen.length c4))).heap.size (w.alloc (hpb H (.slice a1 H.row.length c1) (.slice a2 H.roots.length c2) (.slice a3 H.mourned.length c3) (.slice a4 H.seen.length c4))), Calls Tryz.prog 116 #[.int .i64 H.half, .int .i64 H.old] x.to fun e w'' => e = .returned (.bool true) ∧ ∃ y : Ext (w.alloc (hpb H (.slice a1 H.row.length c1) (.slice a2 H.roots.length c2) (.slice a3 H.mourned.length c3) (.slice a4 H.seen.length c4))).heap.size (w.alloc (hpb H (.slice a1 H.row.length c1) (.slice a2 H.roots.length c2) (.slice a3 H.mourned.length c3) (.slice a4 H.seen.length c4))), w'' = y.to) := fun x => calls_grow (Nat.le_refl _) ((sizesOk_any H.half H.old x.to).mono fun e w' ⟨he, hw⟩ => ⟨by rw [he, p1], by rw [hw]; exact Below.refl _ _⟩)
        have HRL : Hid (∀ x : Ext (w.alloc (hpb H (.slice a1 H.row.length c1) (.slice a2 H.roots.length c2) (.slice a3 H.mourned.length c3) (.slice a4 H.seen.length c4))).heap.size (w.alloc (hpb H (.slice a1 H.row.length c1) (.slice a2 H.roots.length c2) (.slice a3 H.mourned.length c3) (.slice a4 H.seen.length c4))), Calls Tryz.prog 117 #[.int .i64 H.half, .int .i64 H.old] x.to fun e w'' => e = .returned (.int .i64 (2 * H.half + H.old)) ∧ ∃ y : Ext (w.alloc (hpb H (.slice a1 H.row.length c1) (.slice a2 H.roots.length c2) (.slice a3 H.mourned.length c3) (.slice a4 H.seen.length c4))).heap.size (w.alloc (hpb H (.slice a1 H.row.length c1) (.slice a2 H.roots.length c2) (.slice a3 H.mourned.length c3) (.slice a4 H.seen.length c4))), w'' = y.to) := fun x => calls_grow (Nat.le_refl _) ((rowLength_int hb1 hb2 x.to).mono fun e w' ⟨he, hw⟩ => ⟨he, by rw [hw]; exact Below.refl _ _⟩)
        have HSD : Hid (∀ x : Ext (w.alloc (hpb H (.slice a1 H.row.length c1) (.slice a2 H.roots.length c2) (.slice a3 H.mourned.length c3) (.slice a4 H.seen.length c4))).heap.size (w.alloc (hpb H (.slice a1 H.row.length c1) (.slice a2 H.roots.length c2) (.slice a3 H.mourned.length c3) (.slice a4 H.seen.length c4))), Calls Tryz.prog 118 #[hpv H (.slice a1 H.row.length c1) (.slice a2 H.roots.length c2) (.slice a3 H.mourned.length c3) (.slice a4 H.seen.length c4)] x.to fun e w'' => e = .returned (.bool false) ∧ ∃ y : Ext (w.alloc (hpb H (.slice a1 H.row.length c1) (.slice a2 H.roots.length c2) (.slice a3 H.mourned.length c3) (.slice a4 H.seen.length c4))).heap.size (w.alloc (hpb H (.slice a1 H.row.length c1) (.slice a2 H.roots.length c2) (.slice a3 H.mourned.length c3) (.slice a4 H.seen.length c4))), w'' = y.to) := fun x => calls_grow (Nat.le_refl _) ((sideOk_any (hpAt_below h (HB0.out.trans (x.below.mono HB0.out.size)))).mono fun e w' ⟨he, hw⟩ => ⟨by rw [he, p3], hw⟩)
        obtain ⟨⟨z0, z1, z2, z3, z4⟩, ⟨z5, z6, z7, z8⟩⟩ := nine_grow T0
        clear B0 T0 h p1
        go_enter Tryz.func90, Tryz.ntmps90
        go_upto_region 1 with fail
        generalize (w.alloc (hpb H (.slice a1 H.row.length c1) (.slice a2 H.roots.length c2) (.slice a3 H.mourned.length c3) (.slice a4 H.seen.length c4))) = X at *
        haveI := ext_any X
        refine region_grow (n := X.heap.size) (by kernel_rfl) (by kernel_rfl) ?_
        repeat (go_big_quiet_step ((first | (go_at_call 116; exact HSZ.out _) | (go_at_call 117; exact HRL.out _) | (go_at_call 118; exact HSD.out _))))
        refine wpQuiet_nil ?_
        intro _ hw'
        obtain ⟨x, rfl⟩ := hw'
        have HBE : Hid _ := HB0.out.trans (x.below.mono HB0.out.size)
        clear z0 z1 z2 z3 z4 z5 z6 z7 z8
        generalize x.to = W at *
        clear x this
        go_wp2
        go_ret
        exact ⟨rfl, HBE.out⟩
      · skip
        skip
        rw [show numB H = inR 0 65535 H.seed by unfold numB; simp [*]]
        have HSZ : Hid (∀ x : Ext (w.alloc (hpb H (.slice a1 H.row.length c1) (.slice a2 H.roots.length c2) (.slice a3 H.mourned.length c3) (.slice a4 H.seen.length c4))).heap.size (w.alloc (hpb H (.slice a1 H.row.length c1) (.slice a2 H.roots.length c2) (.slice a3 H.mourned.length c3) (.slice a4 H.seen.length c4))), Calls Tryz.prog 116 #[.int .i64 H.half, .int .i64 H.old] x.to fun e w'' => e = .returned (.bool true) ∧ ∃ y : Ext (w.alloc (hpb H (.slice a1 H.row.length c1) (.slice a2 H.roots.length c2) (.slice a3 H.mourned.length c3) (.slice a4 H.seen.length c4))).heap.size (w.alloc (hpb H (.slice a1 H.row.length c1) (.slice a2 H.roots.length c2) (.slice a3 H.mourned.length c3) (.slice a4 H.seen.length c4))), w'' = y.to) := fun x => calls_grow (Nat.le_refl _) ((sizesOk_any H.half H.old x.to).mono fun e w' ⟨he, hw⟩ => ⟨by rw [he, p1], by rw [hw]; exact Below.refl _ _⟩)
        have HRL : Hid (∀ x : Ext (w.alloc (hpb H (.slice a1 H.row.length c1) (.slice a2 H.roots.length c2) (.slice a3 H.mourned.length c3) (.slice a4 H.seen.length c4))).heap.size (w.alloc (hpb H (.slice a1 H.row.length c1) (.slice a2 H.roots.length c2) (.slice a3 H.mourned.length c3) (.slice a4 H.seen.length c4))), Calls Tryz.prog 117 #[.int .i64 H.half, .int .i64 H.old] x.to fun e w'' => e = .returned (.int .i64 (2 * H.half + H.old)) ∧ ∃ y : Ext (w.alloc (hpb H (.slice a1 H.row.length c1) (.slice a2 H.roots.length c2) (.slice a3 H.mourned.length c3) (.slice a4 H.seen.length c4))).heap.size (w.alloc (hpb H (.slice a1 H.row.length c1) (.slice a2 H.roots.length c2) (.slice a3 H.mourned.length c3) (.slice a4 H.seen.length c4))), w'' = y.to) := fun x => calls_grow (Nat.le_refl _) ((rowLength_int hb1 hb2 x.to).mono fun e w' ⟨he, hw⟩ => ⟨he, by rw [hw]; exact Below.refl _ _⟩)
        have HSD : Hid (∀ x : Ext (w.alloc (hpb H (.slice a1 H.row.length c1) (.slice a2 H.roots.length c2) (.slice a3 H.mourned.length c3) (.slice a4 H.seen.length c4))).heap.size (w.alloc (hpb H (.slice a1 H.row.length c1) (.slice a2 H.roots.length c2) (.slice a3 H.mourned.length c3) (.slice a4 H.seen.length c4))), Calls Tryz.prog 118 #[hpv H (.slice a1 H.row.length c1) (.slice a2 H.roots.length c2) (.slice a3 H.mourned.length c3) (.slice a4 H.seen.length c4)] x.to fun e w'' => e = .returned (.bool true) ∧ ∃ y : Ext (w.alloc (hpb H (.slice a1 H.row.length c1) (.slice a2 H.roots.length c2) (.slice a3 H.mourned.length c3) (.slice a4 H.seen.length c4))).heap.size (w.alloc (hpb H (.slice a1 H.row.length c1) (.slice a2 H.roots.length c2) (.slice a3 H.mourned.length c3) (.slice a4 H.seen.length c4))), w'' = y.to) := fun x => calls_grow (Nat.le_refl _) ((sideOk_any (hpAt_below h (HB0.out.trans (x.below.mono HB0.out.size)))).mono fun e w' ⟨he, hw⟩ => ⟨by rw [he, p3], hw⟩)
        have HHS : Hid (∀ x : Ext (w.alloc (hpb H (.slice a1 H.row.length c1) (.slice a2 H.roots.length c2) (.slice a3 H.mourned.length c3) (.slice a4 H.seen.length c4))).heap.size (w.alloc (hpb H (.slice a1 H.row.length c1) (.slice a2 H.roots.length c2) (.slice a3 H.mourned.length c3) (.slice a4 H.seen.length c4))), Calls Tryz.prog 119 #[.int .i64 H.seed] x.to fun e w'' => e = .returned (.bool (inR 0 65535 H.seed)) ∧ ∃ y : Ext (w.alloc (hpb H (.slice a1 H.row.length c1) (.slice a2 H.roots.length c2) (.slice a3 H.mourned.length c3) (.slice a4 H.seen.length c4))).heap.size (w.alloc (hpb H (.slice a1 H.row.length c1) (.slice a2 H.roots.length c2) (.slice a3 H.mourned.length c3) (.slice a4 H.seen.length c4))), w'' = y.to) := fun x => calls_grow (Nat.le_refl _) ((hashInRange_any H.seed x.to).mono fun e w' ⟨he, hw⟩ => ⟨he, by rw [hw]; exact Below.refl _ _⟩)
        obtain ⟨⟨z0, z1, z2, z3, z4⟩, ⟨z5, z6, z7, z8⟩⟩ := nine_grow T0
        clear B0 T0 h p1
        generalize inR 0 65535 H.seed = sb at *
        go_enter Tryz.func90, Tryz.ntmps90
        go_upto_region 1 with fail
        generalize (w.alloc (hpb H (.slice a1 H.row.length c1) (.slice a2 H.roots.length c2) (.slice a3 H.mourned.length c3) (.slice a4 H.seen.length c4))) = X at *
        haveI := ext_any X
        refine region_grow (n := X.heap.size) (by kernel_rfl) (by kernel_rfl) ?_
        repeat (go_big_quiet_step ((first | (go_at_call 116; exact HSZ.out _) | (go_at_call 117; exact HRL.out _) | (go_at_call 118; exact HSD.out _) | (go_at_call 119; exact HHS.out _))))
        refine wpQuiet_nil ?_
        intro _ hw'
        obtain ⟨x, rfl⟩ := hw'
        have HBE : Hid _ := HB0.out.trans (x.below.mono HB0.out.size)
        clear z0 z1 z2 z3 z4 z5 z6 z7 z8
        generalize x.to = W at *
        clear x this
        go_wp2
        go_ret
        exact ⟨rfl, HBE.out⟩
end Go.Proofs.YtmhbdmmpmagbkaaGreat.hp
namespace Go.Proofs.YtmhbdmmpmagbkaaGreat.walks
open Go.RowKit rows heads words

/-- A place of a row. -/
abbrev Pl := Fin 1001
def pls (ys : List Int) : Nat → Nat → List Pl
  | 0, _ => []
  | n + 1, k => if h : k ≤ 1000 then (if chunk ys k = 0 then [] else ⟨k, by omega⟩ :: pls ys n (k + (chunk ys k).toNat)) else []
theorem pls_end {ys : List Int} {k : Nat} (n : Nat) (h : chunk ys k = 0) : pls ys n k = [] := by
  cases n with
  | zero => rfl
  | succ n =>
    unfold pls
    by_cases hk : k ≤ 1000
    · rw [dif_pos hk, if_pos h]
    · rw [dif_neg hk]
theorem pls_step {ys : List Int} {k : Nat} (n : Nat) (hk : k < 1001) (h : chunk ys k ≠ 0) : pls ys (n + 1) k = ⟨k, hk⟩ :: pls ys n (k + (chunk ys k).toNat) := by
  conv => lhs; unfold pls
  rw [dif_pos (by omega), if_neg h]
theorem pls_more (ys : List Int) (hl : ys.length ≤ 1000) : ∀ (n m k : Nat), ys.length - k ≤ n → ys.length - k ≤ m → pls ys n k = pls ys m k := by
  intro n
  induction n with
  | zero =>
    intro m k h _
    have := chunk_bounds ys k
    rw [pls_end _ (by omega), pls_end _ (by omega)]
  | succ n ih =>
    intro m k h h'
    have := chunk_bounds ys k
    by_cases h0 : chunk ys k = 0
    · rw [pls_end _ h0, pls_end _ h0]
    · obtain ⟨m', rfl⟩ : ∃ m', m = m' + 1 := ⟨m - 1, by omega⟩
      rw [pls_step n (by omega) h0, pls_step m' (by omega) h0, ih m' _ (by omega) (by omega)]
/-- The places of chunks from k on, as far as there are any. -/
def plO (ys : List Int) (k : Nat) : List Pl := pls ys (ys.length - k) k
theorem plO_end {ys : List Int} {k : Nat} (h : chunk ys k = 0) : plO ys k = [] := pls_end _ h
theorem plO_step {ys : List Int} {k : Nat} (hl : ys.length ≤ 1000) (hk : k < 1001) (h : chunk ys k ≠ 0) : plO ys k = ⟨k, hk⟩ :: plO ys (k + (chunk ys k).toNat) := by
  have := chunk_bounds ys k
  unfold plO
  obtain ⟨m, hm⟩ : ∃ m, ys.length - k = m + 1 := ⟨ys.length - k - 1, by omega⟩
  rw [hm, pls_step m hk h, pls_more ys hl m (ys.length - (k + (chunk ys k).toNat)) _ (by omega) (by omega)]
theorem pls_length (ys : List Int) : ∀ (n k : Nat), (pls ys n k).length ≤ n := by
  intro n
  induction n with
  | zero => intro k; simp [pls]
  | succ n ih =>
    intro k
    unfold pls
    split
    · split
      · simp
      · have := ih (k + (chunk ys k).toNat); simp; omega
    · simp
theorem plO_length (ys : List Int) (k : Nat) : (plO ys k).length ≤ ys.length := Nat.le_trans (pls_length ys _ _) (by omega)

/-- Where the last one ended. -/
def enf (ys : List Int) (e : Int) (l : List Pl) : Int := l.foldl (fun _ x => (x.val : Int) + chunk ys x.val) e
theorem enf_snoc (ys : List Int) (e : Int) (l : List Pl) (x : Pl) : enf ys e (l ++ [x]) = (x.val : Int) + chunk ys x.val := by simp [enf]
theorem enf_cons (ys : List Int) (e : Int) (x : Pl) (l : List Pl) : enf ys e (x :: l) = enf ys ((x.val : Int) + chunk ys x.val) l := rfl

/-- What is cut off behind t has just the chunks that end by t. -/
theorem chunk_take {xs : List Int} {k t : Nat} (hk : k < t) (ht : t ≤ xs.length) : chunk (xs.take t) k = if chunk xs k = 0 ∨ (k : Int) + chunk xs k > t then 0 else chunk xs k := by
  have e0 : (xs.take t).getD k 0 = xs.getD k 0 := by simp [List.getD_eq_getElem?_getD, hk]
  have e1 : k + 1 < t → (xs.take t).getD (k + 1) 0 = xs.getD (k + 1) 0 := fun h => by simp [List.getD_eq_getElem?_getD, h]
  have el : (xs.take t).length = t := by simp; omega
  have bs := uS_bounds (xs.getD k 0)
  have zs := sz_bounds bs.1 bs.2
  unfold chunk
  rw [e0, el]
  by_cases ho : (ok (xs.getD k 0) && !uM (xs.getD k 0)) = true
  · simp only [if_pos ho]
    by_cases h6 : uF (xs.getD k 0) = 6
    · simp only [if_pos h6]
      by_cases hk1 : k + 1 < t
      · rw [e1 hk1]
        have hk2 : k + 1 < xs.length := by omega
        generalize xs.getD (k + 1) 0 = y
        by_cases hf : freeOk t k y = true
        · have hf' := hf
          simp only [freeOk, decide_eq_true_eq] at hf'
          have hg : freeOk xs.length k y = true := by simp only [freeOk, decide_eq_true_eq]; omega
          have L : (if k + 1 < t ∧ freeOk t k y = true then y else 0) = y := if_pos ⟨hk1, hf⟩
          have R : (if k + 1 < xs.length ∧ freeOk xs.length k y = true then y else 0) = y := if_pos ⟨hk2, hg⟩
          rw [L, R, if_neg]
          omega
        · have L : (if k + 1 < t ∧ freeOk t k y = true then y else 0) = 0 := if_neg (fun h => hf h.2)
          simp only [freeOk, decide_eq_true_eq] at hf
          by_cases hg : freeOk xs.length k y = true
          · have hg' := hg
            simp only [freeOk, decide_eq_true_eq] at hg'
            have R : (if k + 1 < xs.length ∧ freeOk xs.length k y = true then y else 0) = y := if_pos ⟨hk2, hg⟩
            rw [L, R, if_pos]
            omega
          · have R : (if k + 1 < xs.length ∧ freeOk xs.length k y = true then y else 0) = 0 := if_neg (fun h => hg h.2)
            rw [L, R, if_pos (.inl rfl)]
      · generalize (xs.take t).getD (k + 1) 0 = y'
        generalize xs.getD (k + 1) 0 = y
        have L : (if k + 1 < t ∧ freeOk t k y' = true then y' else 0) = 0 := if_neg (fun h => hk1 h.1)
        rw [L]
        by_cases hg : k + 1 < xs.length ∧ freeOk xs.length k y = true
        · have hg' := hg.2
          simp only [freeOk, decide_eq_true_eq] at hg'
          have R : (if k + 1 < xs.length ∧ freeOk xs.length k y = true then y else 0) = y := if_pos hg
          rw [R, if_pos]
          omega
        · have R : (if k + 1 < xs.length ∧ freeOk xs.length k y = true then y else 0) = 0 := if_neg hg
          rw [R, if_pos (.inl rfl)]
    · simp only [if_neg h6]
      by_cases hc : (k : Int) + sz (uS (xs.getD k 0)) ≤ t
      · rw [e1 (by omega)]
        generalize sz (uS (xs.getD k 0)) = z at *
        by_cases h7 : uF (xs.getD k 0) = 7 → isA (xs.getD (k + 1) 0) = true
        · have L : (if (k : Int) + z ≤ t ∧ (uF (xs.getD k 0) = 7 → isA (xs.getD (k + 1) 0) = true) then z else 0) = z := if_pos ⟨hc, h7⟩
          have R : (if (k : Int) + z ≤ xs.length ∧ (uF (xs.getD k 0) = 7 → isA (xs.getD (k + 1) 0) = true) then z else 0) = z := if_pos ⟨by omega, h7⟩
          rw [L, R, if_neg]
          omega
        · have L : (if (k : Int) + z ≤ t ∧ (uF (xs.getD k 0) = 7 → isA (xs.getD (k + 1) 0) = true) then z else 0) = 0 := if_neg (fun h => h7 h.2)
          have R : (if (k : Int) + z ≤ xs.length ∧ (uF (xs.getD k 0) = 7 → isA (xs.getD (k + 1) 0) = true) then z else 0) = 0 := if_neg (fun h => h7 h.2)
          rw [L, R, if_pos (.inl rfl)]
      · generalize sz (uS (xs.getD k 0)) = z at *
        generalize (xs.take t).getD (k + 1) 0 = y'
        have L : (if (k : Int) + z ≤ t ∧ (uF (xs.getD k 0) = 7 → isA y' = true) then z else 0) = 0 := if_neg (fun h => hc h.1)
        rw [L]
        by_cases hg : (k : Int) + z ≤ xs.length ∧ (uF (xs.getD k 0) = 7 → isA (xs.getD (k + 1) 0) = true)
        · have R : (if (k : Int) + z ≤ xs.length ∧ (uF (xs.getD k 0) = 7 → isA (xs.getD (k + 1) 0) = true) then z else 0) = z := if_pos hg
          rw [R, if_pos]
          omega
        · have R : (if (k : Int) + z ≤ xs.length ∧ (uF (xs.getD k 0) = 7 → isA (xs.getD (k + 1) 0) = true) then z else 0) = 0 := if_neg hg
          rw [R, if_pos (.inl rfl)]
  · simp only [if_neg ho]; simp

theorem walk_by {xs : List Int} {t : Nat} (ht : t ≤ xs.length) (hm : t ≤ 1000) : ∀ (n k : Nat), t - k ≤ n → k ≤ t →
    walkO xs k t = if enf (xs.take t) k (plO (xs.take t) k) = t then some ((plO (xs.take t) k).map (fun p => (p.val : Int))) else none := by
  have el : (xs.take t).length = t := by simp; omega
  intro n
  induction n with
  | zero =>
    intro k h1 h2
    have ek : k = t := by omega
    subst ek
    have := chunk_bounds (xs.take k) k
    rw [walkO_end (by omega), plO_end (by omega)]
    simp [enf]
  | succ n ih =>
    intro k h1 h2
    by_cases hk : k < t
    · have ct := chunk_take hk ht
      by_cases hb : chunk xs k = 0 ∨ (k : Int) + chunk xs k > t
      · rw [if_pos hb] at ct
        rw [walkO_bad hk hb, plO_end ct, if_neg]
        simp [enf]; omega
      · rw [if_neg hb] at ct
        have := chunk_bounds xs k
        rw [walkO_step hk hb, plO_step (by omega) (show k < 1001 by omega) (by omega), enf_cons, ct, ih _ (by omega) (by omega)]
        have e : ((k : Int) + chunk xs k) = ((k + (chunk xs k).toNat : Nat) : Int) := by omega
        rw [e]
        split <;> simp
    · have ek : k = t := by omega
      subst ek
      have := chunk_bounds (xs.take k) k
      rw [walkO_end hk, plO_end (by omega)]
      simp [enf]
end Go.Proofs.YtmhbdmmpmagbkaaGreat.walks
namespace Go.Proofs.YtmhbdmmpmagbkaaGreat.walks
open Go.RowKit Go.Shelf rows heads words

attribute [local go_sem] Oper.semAt_some

/-- What a round hands out at a place. -/
abbrev encs (a : Option Addr) (ys : List Int) (x : Pl) : Array Value :=
  #[.int .i64 (x.val : Int), cv (uS (ys.getD x.val 0)) (uF (ys.getD x.val 0)) (uC (ys.getD x.val 0)) (uH (ys.getD x.val 0)) (uP (ys.getD x.val 0)) (uM (ys.getD x.val 0)) (piece a x.val (chunk ys x.val).toNat)]

/-- What a round keeps: all that lay below n₀, the box of the row, every block that holds a chunk. -/
def Kc (n₀ Br : Nat) (W W' : World) : Prop := Below n₀ W W' ∧ W'.heap[Br]? = W.heap[Br]? ∧ ∀ (b : Nat) (cs : Array Value), W.heap[b]? = some (Obj.cells cs 87 (0, 0)) → W'.heap[b]? = some (Obj.cells cs 87 (0, 0))
theorem kc_t {n₀ Br : Nat} {A B C : World} (h : Kc n₀ Br A B) (k : Kc n₀ Br B C) : Kc n₀ Br A C := ⟨h.1.trans k.1, k.2.1.trans h.2.1, fun b cs e => k.2.2 b cs (h.2.2 b cs e)⟩
theorem kc_b {n₀ Br : Nat} {w : World} (hn : n₀ ≤ w.heap.size) (hB : Br < w.heap.size) (W : World) (l : Nat) (o o' : Obj) (hl : w.heap.size ≤ l) (h : W.heap[l]? = some o) (hc : o.isCells = false) (hw : o.isWalk = false) : Kc n₀ Br W (W.putObj l o') :=
  ⟨belowK_b hn W l o o' hl h hc hw, World.putObj_heap_other (by omega), fun b cs e => by
    have hne : b ≠ l := fun e' => by subst e'; rw [h] at e; cases e; cases hc
    exact (World.putObj_heap_other hne).trans e⟩
theorem grown_of_below {W W' : World} (h : Below W.heap.size W W') : W.grownBy W' none := ⟨h.os, h.tape, h.output, h.size, fun i hi _ => h.block i hi⟩

set_option maxRecDepth 100000 in
set_option maxHeartbeats 4000000 in
theorem chunks1_in (n : Nat) (hn : 2 ≤ n) (l Br Bf n₀ f : Nat) (a : Option Addr) (cap : Nat) (ys : List Int) (hl : ys.length ≤ 1000) (ha : AllI ys) (hf : f ≤ 1000) (J Jx : List Pl → World → Prop)
    (hY : ∀ pre x W, J pre W → pre.length < (plO ys f).length → YieldAt Fence.wide (n - 1) Tryz.prog l (encs a ys x) W fun e W' =>
      (e = .returned (.bool true) ∧ J (pre ++ [x]) W' ∧ Kc n₀ Br W W') ∨ (e = .returned (.bool false) ∧ Jx (pre ++ [x]) W'))
    (W0 : World) (hJ : AbidesFrom W0.heap.size J) (hBr : Boxed W0 Br 22 (.slice a ys.length cap)) (hBf : W0.cell? ⟨Bf, 0, none⟩ = some (.int .i64 f)) (hI : ∀ W, Below n₀ W0 W → IntsAt W (.slice a ys.length cap) ys) (h0 : J [] W0) (hn₀ : n₀ ≤ W0.heap.size) :
    CallsIn Fence.wide n Tryz.prog 172 #[.func (.yield l) #[] #[], .pointer (some ⟨Bf, 0, none⟩), .pointer (some ⟨Br, 0, none⟩)] W0 fun e W' => (∃ v, e = .returned v) ∧
      ((∃ zs, zs = plO ys f ∧ J zs W') ∨ (∃ pre, pre <+: plO ys f ∧ Jx pre W')) := by
  refine callsIn_of_wp Tryz.func172 rfl trivial ?_ rfl
  simp only [Tryz.ntmps172, List.size_toArray, List.length_cons, List.length_nil, Nat.reduceAdd, Nat.reduceSub, Array.replicate_succ, Array.replicate_zero, List.push_toArray, List.append_toArray, List.nil_append, List.cons_append]
  gi_wp2
  gi_loopw [4] (fun p wr => ∃ (pre : List Pl) (k : Nat), p = .int .i64 (k : Int) ∧ k ≤ 1000 ∧ plO ys f = pre ++ plO ys k ∧ J pre wr ∧ Below n₀ W0 wr ∧ Boxed wr Br 22 (.slice a ys.length cap))
    (fun p _ => 1001 - (intOf p).toNat)
  case atStart =>
    exact ⟨[], f, rfl, hf, rfl, h0, Below.refl _ _, hBr⟩
  case round =>
    obtain ⟨pre, k, rfl, hk, hL, hJs, hB, bR⟩ := hrel
    have cR := bR.cell
    have h1 : 1 ≤ n := by omega
    cases d : okAt ys k
    · have e0 : chunk ys k = 0 := by
        have := chunk_bounds ys k
        simp [okAt, rowOk, atOk] at d
        omega
      have C := callsIn_wide (n := n - 1).2 (chunkOf_out (hI wr hB) (by omega) k ⟨by omega, by omega⟩ d)
      clear hY hI
      gi_wp2_with fail
      refine ⟨trivial, C.mono ?_⟩
      rintro e w1 ⟨rfl, b1⟩
      have hJ1 := hJ pre wr _ none hJs (grown_of_below (b1.alloc b1.size (cb 0 0 0 0 false false (.slice none 0 0)))) (fun _ e => by cases e)
      have HE : Hid _ := hJ1
      clear b1 C hJ1 hJ hJs
      gi_wp2
      refine ⟨fun _ h => (by cases h), ?_⟩
      gi_wp2
      refine bodyPost_ret (results_none rfl _ _ _) rfl ?_
      exact ⟨⟨_, rfl⟩, .inl ⟨pre, by rw [hL, plO_end e0, List.append_nil], HE⟩⟩
    · have C := callsIn_wide (n := n - 1).2 (chunkOf_in (hI wr hB) (by omega) ha k d)
      unfold chRes at C
      by_cases e0 : chunk ys k = 0
      · rw [if_pos e0] at C
        clear hY hI
        gi_wp2_with fail
        refine ⟨trivial, C.mono ?_⟩
        rintro e w1 ⟨rfl, b1⟩
        have hJ1 := hJ pre wr _ none hJs (grown_of_below (b1.alloc b1.size (cb 0 0 0 0 false false (.slice none 0 0)))) (fun _ e => by cases e)
        have HE : Hid _ := hJ1
        clear b1 C hJ1 hJ hJs
        gi_wp2
        refine ⟨fun _ h => (by cases h), ?_⟩
        gi_wp2
        refine bodyPost_ret (results_none rfl _ _ _) rfl ?_
        exact ⟨⟨_, rfl⟩, .inl ⟨pre, by rw [hL, plO_end e0, List.append_nil], HE⟩⟩
      · rw [if_neg e0] at C
        have hpl := plO_step hl (show k < 1001 by omega) e0
        have hlt : pre.length < (plO ys f).length := by rw [hL, hpl]; simp
        have hY1 := fun W hW => hY pre ⟨k, by omega⟩ W hW hlt
        have cn := chunk_nat ys k
        have cb2 := chunk_bounds ys k
        have hL2 : plO ys f = (pre ++ [⟨k, by omega⟩]) ++ plO ys (k + (chunk ys k).toNat) := by rw [hL, hpl]; simp
        simp only [encs] at hY1
        rw [hpl] at hL
        unfold piece at hY1 C
        generalize hN : (chunk ys k).toNat = N at *
        have hNk : k + N ≤ 1000 := by omega
        have hN2 : 2 ≤ N := by omega
        clear hY cn cb2 e0 hN
        generalize uS (ys.getD k 0) = s at *
        generalize uF (ys.getD k 0) = ff at *
        generalize uC (ys.getD k 0) = c at *
        generalize uH (ys.getD k 0) = g at *
        generalize uP (ys.getD k 0) = p at *
        generalize uM (ys.getD k 0) = m at *
        generalize (if N = 0 then a else Option.map (fun x => x.add k) a) = ad at *
        gi_wp2_with fail
        refine ⟨trivial, C.mono ?_⟩
        rintro e w1 ⟨rfl, b1⟩
        have hJ1 := hJ pre wr _ none hJs (grown_of_below (b1.alloc b1.size (cb s ff c g p m (.slice ad N N)))) (fun _ e => by cases e)
        have HB1 := (hB.trans (b1.mono (Nat.le_trans hn₀ hB.size))).alloc (Nat.le_trans (Nat.le_trans hn₀ hB.size) b1.size) (cb s ff c g p m (.slice ad N N))
        have bR1 : Boxed (w1.alloc (cb s ff c g p m (.slice ad N N))) Br 22 (.slice a ys.length cap) := bR.kept (grown_of_below (b1.alloc b1.size (cb s ff c g p m (.slice ad N N)))) (by simp)
        have M1 := chAt_new w1 s ff c g p m (.slice ad N N)
        obtain ⟨fn, tmps, assign, body, hy, hR⟩ := hY1 _ hJ1
        have HB : Hid _ := HB1
        have HBX : Hid _ := bR1
        have HM : Hid _ := M1
        have HJ : Hid _ := hJ
        clear b1 C hJs hB bR cR hY1 hJ1 HB1 bR1 M1 hJ
        gi_wp2
        refine hR.mono ?_
        rintro e W3 (⟨rfl, hJ3, hk3⟩ | ⟨rfl, hJx3⟩)
        · have M3 : ChAt W3 w1.heap.size s ff c g p m (.slice ad N N) := hk3.2.2 _ _ HM.out
          have HB3 : Hid _ := HB.out.trans hk3.1
          have HR3 : Hid (Boxed W3 Br 22 (.slice a ys.length cap)) := hk3.2.1.trans HBX.out
          have HJ4 : Hid _ := HJ.out _ W3 _ none hJ3 (grown_of_below ((Below.refl _ W3).alloc (Nat.le_refl _) (cb s ff c g p m (.slice ad N N)))) (fun _ e => by cases e)
          have HB4 : Hid _ := HB3.out.alloc (Nat.le_trans hn₀ HB3.out.size) (cb s ff c g p m (.slice ad N N))
          have HR4 : Hid _ := HR3.out.alloc (cb s ff c g p m (.slice ad N N))
          obtain ⟨m0, m1, m2, m3, m4, m5, m6, mf⟩ := chAt_cells M3
          clear HB HBX HM hR hy M3 hk3 hJ3 mf HJ HB3 HR3
          gi_wp2_with fail
          refine ⟨trivial, (callsIn_wide.2 (size_any s ff c g p m ad N N W3)).mono ?_⟩
          rintro e W4 ⟨rfl, rfl⟩
          gi_wp2
          go_roundw
          case rel => exact ⟨_, k + N, by go_num, hNk, hL2, HJ4, HB4, HR4⟩
          case measure => simp [intOf]; omega
        · gi_wp2
          refine bodyPost_ret (results_none rfl _ _ _) rfl ?_
          exact ⟨⟨_, rfl⟩, .inr ⟨_, ⟨plO ys (k + N), hL2.symm⟩, hJx3⟩⟩

theorem chunks_any (a : Option Addr) (len cap : Nat) (f : Int) (w : World) :
    Calls Tryz.prog 163 #[.slice a len cap, .int .i64 f] w fun e w' => e = .returned (.func (.func 172) #[] #[.pointer (some ⟨w.heap.size + 1, 0, none⟩), .pointer (some ⟨w.heap.size, 0, none⟩)]) ∧ w' = (w.alloc (.cells #[.slice a len cap] 22)).alloc (.cells #[.int .i64 f] 2) := by
  go_enter Tryz.func163, Tryz.ntmps163
  go_wp2
  go_ret
  exact ⟨rfl, rfl⟩

/-- All the places in their order, or, where a round has said no more, some of them. -/
theorem chunks_stops (n : Nat) (hn : 2 ≤ n) (Br Bf n₀ f : Nat) (a : Option Addr) (cap : Nat) (ys : List Int) (hl : ys.length ≤ 1000) (ha : AllI ys) (hf : f ≤ 1000) (w : World) (h1 : Br < w.heap.size) (h2 : Bf < w.heap.size) (hn₀ : n₀ ≤ w.heap.size)
    (hBr : Boxed w Br 22 (.slice a ys.length cap)) (hBf : w.cell? ⟨Bf, 0, none⟩ = some (.int .i64 f)) (hI : ∀ W, Below n₀ w W → IntsAt W (.slice a ys.length cap) ys) :
    SeqStopsK Fence.wide n Tryz.prog 172 #[.pointer (some ⟨Bf, 0, none⟩), .pointer (some ⟨Br, 0, none⟩)] (encs a ys) (Kc n₀ Br) (fun zs => zs = plO ys f) (fun pre => pre <+: plO ys f) (plO ys f).length w := fun l J Jx W hW hJ _ hY h0 =>
  chunks1_in n hn l Br Bf n₀ f a cap ys hl ha hf J Jx hY W hJ ((hW.block Br h1).trans hBr) ((hW.cell (p := ⟨Bf, 0, none⟩) h2).trans hBf) (fun W' hW' => hI W' ((hW.mono hn₀).trans hW')) h0 (Nat.le_trans hn₀ hW.size)
end Go.Proofs.YtmhbdmmpmagbkaaGreat.walks
namespace Go.Proofs.YtmhbdmmpmagbkaaGreat.walks
open Go.RowKit Go.Shelf rows heads words

theorem walk_no {w : World} {v : Value} {xs : List Int} {f t : Int} (h : IntsAt w v xs) (ht : I64 t) (d : rangeOk xs f t = false) :
    Calls Tryz.prog 148 #[v, .int .i64 f, .int .i64 t] w fun e w' => ∃ v', e = .returned (.tuple #[v', .bool false]) ∧ rows.Own w' w.heap.size v' [] ∧ Below w.heap.size w w' := by
  have h' := h
  obtain ⟨a, cap, rfl, hlc, hcm, _, hc⟩ := h
  clear hc
  cases dc : cutOk xs.length 0 t
  · cases dr : rowOk xs
    all_goals
      go_enter Tryz.func148, Tryz.ntmps148
      go_wp2_with fail
      refine (cut_no hlc hcm 0 t ⟨by decide, by decide⟩ ht dc).mono ?_
      rintro e w1 ⟨rfl, hw1⟩
      rw [hw1]
      clear hw1 w1
      go_wp2_with (go_at_call 158; refine (isRow_any h').mono ?_; rintro e w2 ⟨rfl, hw2⟩; rw [hw2]; clear hw2 w2)
      go_ret2
      exact ⟨_, rfl, own_nil _ _, Below.refl _ _⟩
  · obtain ⟨_, t0, t1⟩ := cutOk_true dc
    obtain ⟨T, rfl⟩ := Int.eq_ofNat_of_zero_le t0
    have hp : ∃ ad, piece a 0 T = .slice ad T T := ⟨_, rfl⟩
    obtain ⟨ad, hp⟩ := hp
    cases dr : rowOk xs
    · go_enter Tryz.func148, Tryz.ntmps148
      go_wp2_with fail
      refine (cut_yes hlc hcm 0 T (by omega)).mono ?_
      rintro e w1 ⟨rfl, hw1⟩
      rw [hw1, hp]
      clear hw1 w1 hp
      go_wp2_with (go_at_call 158; refine (isRow_any h').mono ?_; rintro e w2 ⟨rfl, hw2⟩; rw [hw2]; clear hw2 w2)
      go_ret2
      exact ⟨_, rfl, own_nil _ _, Below.refl _ _⟩
    · by_cases h1 : f < 0
      · go_enter Tryz.func148, Tryz.ntmps148
        go_wp2_with fail
        refine (cut_yes hlc hcm 0 T (by omega)).mono ?_
        rintro e w1 ⟨rfl, hw1⟩
        rw [hw1, hp]
        clear hw1 w1 hp
        go_wp2_with (go_at_call 158; refine (isRow_any h').mono ?_; rintro e w2 ⟨rfl, hw2⟩; rw [hw2]; clear hw2 w2)
        go_ret2
        exact ⟨_, rfl, own_nil _ _, Below.refl _ _⟩
      · have h2 : f > (T : Int) := by
          simp only [rangeOk, dr, Bool.true_and, decide_eq_false_iff_not] at d
          omega
        go_enter Tryz.func148, Tryz.ntmps148
        go_wp2_with fail
        refine (cut_yes hlc hcm 0 T (by omega)).mono ?_
        rintro e w1 ⟨rfl, hw1⟩
        rw [hw1, hp]
        clear hw1 w1 hp
        go_wp2_with (go_at_call 158; refine (isRow_any h').mono ?_; rintro e w2 ⟨rfl, hw2⟩; rw [hw2]; clear hw2 w2)
        go_ret2
        exact ⟨_, rfl, own_nil _ _, Below.refl _ _⟩

/-- A piece from the start on holds the first numbers. -/
theorem piece_ints {w : World} {a : Option Addr} {cap : Nat} {xs : List Int} (h : IntsAt w (.slice a xs.length cap) xs) (hl : xs.length ≤ 1048576) (T : Nat) (hT : T ≤ xs.length) :
    ∃ ad, piece a 0 T = .slice ad T T ∧ IntsAt w (.slice ad (xs.take T).length T) (xs.take T) := by
  obtain ⟨a', cap', e, hlc, hcm, hnil, hc⟩ := h
  injection e with e1 e2 e3
  subst e1 e3
  have el : (xs.take T).length = T := by simp; omega
  rw [el]
  by_cases h0 : T = 0
  · subst h0
    exact ⟨a, piece_none _ _, a, 0, by simp, by simp, by decide, fun _ => rfl, fun h => by simp at h⟩
  · obtain ⟨b, off, rfl, hb, hcc⟩ := hc (by omega)
    refine ⟨_, piece_at b off 0 T (by omega), _, T, by rw [el], by omega, by unfold maxLen; omega, fun h => by simp at h, fun _ => ⟨b, off + 0, rfl, hb, fun k hk => ?_⟩⟩
    rw [el] at hk
    have := hcc k (by omega)
    rw [Nat.add_zero, this]
    simp [List.getD_eq_getElem?_getD, hk]

/-- A block that holds a chunk is no row of numbers. -/
theorem chunk_not_row {W : World} {b : Nat} {cs : Array Value} (h : W.heap[b]? = some (Obj.cells cs 87 (0, 0))) {base k : Nat} {v : Value} {xs : List Value} (hr : W.ownsRow base 2 1 v k xs) : some b ≠ v.ownBlock := by
  rcases hr.2 with ⟨rfl, _⟩ | ⟨g, cap, cur, rfl, _, hgb, _⟩
  · simp [Value.ownBlock]
  · intro e'
    obtain rfl : b = g := by simpa [Value.ownBlock] using e'
    have := h.symm.trans hgb
    simp at this

/-- Behind 'places = append(places, at)': all that the walk of the round owes. -/
theorem app_step {W w1 : World} {n₀ P E Br Bx k m : Nat} {v v' e r u : Value} {xs ys : List Value} {tmp : Obj} {s f c h : Int} {p q : Bool}
    (bP : Boxed W P 22 v) (hrow : W.ownsRow n₀ 2 1 v k xs) (hvE : v.ownBlock ≠ some E) (bE : Boxed W E 2 e) (bR : Boxed W Br 22 r) (M : ChAt W Bx s f c h p q u)
    (hn₀ : n₀ ≤ W.heap.size) (hP : n₀ ≤ P) (hPE : E ≠ P) (hPR : Br ≠ P)
    (hown' : w1.ownsRow n₀ 2 1 v' m ys) (hgrow : (W.alloc tmp).grownBy w1 v.ownBlock) (hat : v'.ownBlock = v.ownBlock ∨ v'.ownBlock = some (W.alloc tmp).heap.size) :
    Boxed w1 P 22 v ∧ Boxed (w1.setCell ⟨P, 0, none⟩ v') P 22 v' ∧ (w1.setCell ⟨P, 0, none⟩ v').ownsRow n₀ 2 1 v' m ys ∧ KeepsOthers W (w1.setCell ⟨P, 0, none⟩ v') ∧ Below n₀ W (w1.setCell ⟨P, 0, none⟩ v') ∧
      Boxed (w1.setCell ⟨P, 0, none⟩ v') E 2 e ∧ Boxed (w1.setCell ⟨P, 0, none⟩ v') Br 22 r ∧ ChAt (w1.setCell ⟨P, 0, none⟩ v') Bx s f c h p q u ∧ v'.ownBlock ≠ some E ∧
      ∀ (b : Nat) (cs : Array Value), W.heap[b]? = some (Obj.cells cs 87 (0, 0)) → (w1.setCell ⟨P, 0, none⟩ v').heap[b]? = some (Obj.cells cs 87 (0, 0)) := by
  obtain ⟨a1, a2, a3, a4, a5⟩ := bP.appended (by decide) hrow hn₀ hP hown' hgrow
  have CK : ∀ (b : Nat) (cs : Array Value), W.heap[b]? = some (Obj.cells cs 87 (0, 0)) → (w1.setCell ⟨P, 0, none⟩ v').heap[b]? = some (Obj.cells cs 87 (0, 0)) := fun b cs hb => by
    have hne : b ≠ P := fun e' => by
      subst e'
      have := hb.symm.trans bP
      simp at this
    have hlt := (Array.getElem?_eq_some_iff.1 hb).1
    exact (Below.heap_setCell w1 ⟨P, 0, none⟩ v' b hne).trans ((hgrow.block b (by simp; omega) (chunk_not_row hb hrow)).trans ((Below.heap_alloc W tmp b hlt).trans hb))
  refine ⟨a1, a2, a3, a4, a5, ((bE.alloc tmp).kept hgrow (fun e' => hvE e'.symm)).other hPE v', ((bR.alloc tmp).kept hgrow (bR.not_row (by decide) hrow)).other hPR v', CK _ _ M, ?_, CK⟩
  rcases hat with e' | e'
  · rw [e']; exact hvE
  · rw [e']
    intro e2
    injection e2 with e2
    have := bE.lt
    simp at e2
    omega

/-- Behind 'end = at + c.size()'. -/
theorem end_step {W : World} {n₀ P E Br m : Nat} {v e e' r : Value} {ys : List Value} {o : Obj}
    (bP : Boxed W P 22 v) (hrow : W.ownsRow n₀ 2 1 v m ys) (hvE : v.ownBlock ≠ some E) (bE : Boxed W E 2 e) (bR : Boxed W Br 22 r) (hn₀ : n₀ ≤ W.heap.size) (hE : n₀ ≤ E) (hPE : E ≠ P) (hER : E ≠ Br) :
    Boxed ((W.alloc o).setCell ⟨E, 0, none⟩ e') P 22 v ∧ ((W.alloc o).setCell ⟨E, 0, none⟩ e').ownsRow n₀ 2 1 v m ys ∧ Boxed ((W.alloc o).setCell ⟨E, 0, none⟩ e') E 2 e' ∧ Boxed ((W.alloc o).setCell ⟨E, 0, none⟩ e') Br 22 r ∧ KeepsOthers W ((W.alloc o).setCell ⟨E, 0, none⟩ e') ∧ Below n₀ W ((W.alloc o).setCell ⟨E, 0, none⟩ e') ∧
      ∀ (b : Nat) (cs : Array Value), W.heap[b]? = some (Obj.cells cs 87 (0, 0)) → ((W.alloc o).setCell ⟨E, 0, none⟩ e').heap[b]? = some (Obj.cells cs 87 (0, 0)) := by
  refine ⟨(bP.alloc o).other (Ne.symm hPE) e', (hrow.alloc o).kept (grownBy_setCell' _ E e') (.inr hvE), (bE.alloc o).set e', (bR.alloc o).other (Ne.symm hER) e', (KeepsOthers.alloc W o).trans (KeepsOthers.setCell _ _ _), ((Below.refl n₀ W).alloc hn₀ o).setCell (p := ⟨E, 0, none⟩) hE e', fun b cs hb => ?_⟩
  have hne : b ≠ E := fun e1 => by
    subst e1
    have := hb.symm.trans bE
    simp at this
  exact (Below.heap_setCell _ ⟨E, 0, none⟩ e' b hne).trans ((Below.heap_alloc W o b (Array.getElem?_eq_some_iff.1 hb).1).trans hb)

theorem own_first {W : World} {base g : Nat} (hg : W.heap[g]? = some (.cells #[] 2 (0, 0))) (hb : base ≤ g) : W.ownsRow base 2 1 (.slice (some ⟨g, 0, none⟩) 0 0) 0 [] :=
  ⟨rfl, .inr ⟨g, 0, #[], rfl, hb, hg, Nat.le_refl _, by decide, rfl, rfl⟩⟩

attribute [local go_sem] Oper.semAt_some

set_option maxRecDepth 100000 in
set_option maxHeartbeats 4000000 in
theorem walk_yes {w : World} {a : Option Addr} {cap : Nat} {xs : List Int} (h : IntsAt w (.slice a xs.length cap) xs) (ha : AllI xs) (dr : rowOk xs = true) (F T : Nat) (hFT : F ≤ T) (hT : T ≤ xs.length) :
    Calls Tryz.prog 148 #[.slice a xs.length cap, .int .i64 F, .int .i64 T] w fun e w' => ∃ v', e = .returned (.tuple #[v', .bool (walkOk xs F T)]) ∧ rows.Own w' w.heap.size v' (walked xs F T) ∧ Below w.heap.size w w' := by
  have hr := rowOk_true dr
  have h' := h
  obtain ⟨a', cap', e, hlc, hcm, hnil, _⟩ := h
  injection e with e1 e2 e3
  subst e1 e3
  obtain ⟨ad, hp, hI⟩ := piece_ints h' (by omega) T hT
  have CUT := callsIn_wide (n := 8 - 1).2 (cut_yes (w := w) (a := a) hlc hcm 0 T (by omega))
  rw [hp] at CUT
  have ROW := callsIn_wide (n := 8 - 1).2 (isRow_any h')
  rw [dr] at ROW
  clear hp
  refine callsIn_wide (n := 8).1 ?_
  refine callsIn_of_wp_marks Tryz.func148 rfl trivial ?_ rfl
  simp only [Tryz.ntmps148, List.size_toArray, List.length_cons, List.length_nil, Nat.reduceAdd, Nat.reduceSub, Array.replicate_succ, Array.replicate_zero, List.push_toArray, List.append_toArray, List.nil_append, List.cons_append]
  gi_wp2_with fail
  refine ⟨trivial, CUT.mono ?_⟩
  rintro e w1 ⟨rfl, hw1⟩
  rw [hw1]
  clear hw1 w1 CUT
  gi_wp2_with fail
  refine ⟨trivial, ROW.mono ?_⟩
  rintro e w1 ⟨rfl, hw1⟩
  rw [hw1]
  clear hw1 w1 ROW
  have hf1 : ¬ (F : Int) < 0 := by omega
  have hf2 : ¬ (F : Int) > T := by omega
  gi_wp2_with fail
  refine ⟨trivial, (callsIn_wide.2 (chunks_any ad T T F _)).mono ?_⟩
  rintro e w1 ⟨rfl, hw1⟩
  have B0 : Below w.heap.size w w1 := by
    rw [hw1]
    exact ((((((Below.refl _ w).alloc (Nat.le_refl _) _).alloc (by simp) _).alloc (by simp; omega) _).alloc (by simp; omega) _).alloc (by simp; omega) _)
  have s0 : w1.heap.size = w.heap.size + 5 := by rw [hw1]; simp
  have E0 : w1.heap[w.heap.size]? = some (.cells #[] 2 (0, 0)) := by
    rw [hw1]
    exact (Below.heap_alloc _ _ _ (by simp; omega)).trans ((Below.heap_alloc _ _ _ (by simp; omega)).trans ((Below.heap_alloc _ _ _ (by simp; omega)).trans ((Below.heap_alloc _ _ _ (by simp)).trans (heap_alloc_new w _))))
  have bP : Boxed w1 (w.heap.size + 1) 22 (.slice (some ⟨w.heap.size, 0, none⟩) 0 0) := by
    rw [hw1]
    have := Boxed.new (w.alloc (.cells #[] 2)) 22 (.slice (some ⟨w.heap.size, 0, none⟩) 0 0)
    rw [World.size_alloc] at this
    exact ((this.alloc _).alloc _).alloc _
  have bE : Boxed w1 (w.heap.size + 1 + 1) 2 (.int .i64 F) := by
    rw [hw1]
    have := Boxed.new ((w.alloc (.cells #[] 2)).alloc (.cells #[.slice (some ⟨w.heap.size, 0, none⟩) 0 0] 22)) 2 (.int .i64 F)
    rw [World.size_alloc, World.size_alloc] at this
    exact (this.alloc _).alloc _
  have bR : Boxed w1 (w.heap.size + 1 + 1 + 1) 22 (.slice ad T T) := by
    rw [hw1]
    have := Boxed.new (((w.alloc (.cells #[] 2)).alloc (.cells #[.slice (some ⟨w.heap.size, 0, none⟩) 0 0] 22)).alloc (.cells #[.int .i64 F] 2)) 22 (.slice ad T T)
    rw [World.size_alloc, World.size_alloc, World.size_alloc] at this
    exact this.alloc _
  have bF : Boxed w1 (w.heap.size + 1 + 1 + 1 + 1) 2 (.int .i64 F) := by
    rw [hw1]
    have := Boxed.new ((((w.alloc (.cells #[] 2)).alloc (.cells #[.slice (some ⟨w.heap.size, 0, none⟩) 0 0] 22)).alloc (.cells #[.int .i64 F] 2)).alloc (.cells #[.slice ad T T] 22)) 2 (.int .i64 F)
    rw [World.size_alloc, World.size_alloc, World.size_alloc, World.size_alloc] at this
    exact this
  have hI' : ∀ W, Below w.heap.size w1 W → IntsAt W (.slice ad (xs.take T).length T) (xs.take T) := fun W hW => intsAt_below hI (B0.trans hW)
  have el : (xs.take T).length = T := by simp; omega
  have bR' : Boxed w1 (w.heap.size + 1 + 1 + 1) 22 (.slice ad (xs.take T).length T) := by rw [el]; exact bR
  have haT : AllI (xs.take T) := allI_take ha T
  have hWB := walk_by hT (by omega) (T - F) F (Nat.le_refl _) hFT
  have STOPS := chunks_stops (8 - 1) (by decide) (w.heap.size + 1 + 1 + 1) (w.heap.size + 1 + 1 + 1 + 1) w.heap.size F ad T (xs.take T) (by omega) haT (by omega) w1 (by omega) (by omega) (by omega) bR' bF.cell hI'
  have hlen := plO_length (xs.take T) F
  have CH := chunk_le (xs.take T)
  have CN := chunk_nat (xs.take T)
  rw [el] at hlen CH
  obtain ⟨i0, hi, hz0, hz1, hz2⟩ := info_parts info
  generalize xs.take T = ys at *
  clear bR' bF hI' haT
  gi_wp2_with fail
  rw [← hw1]
  clear hw1
  refine wpIn_rangeFunc_ownH rfl (by decide) (gf := 172) (lb := #[.pointer (some ⟨w.heap.size + 1 + 1 + 1 + 1, 0, none⟩), .pointer (some ⟨w.heap.size + 1 + 1 + 1, 0, none⟩)]) rfl trivial (enters_of Tryz.func172 (by kernel_rfl) rfl)
    STOPS kc_t (kc_b (by omega) (by omega)) (Below.refl _ _) (fun _ => rfl)
    (fun pre W => (∃ v, Boxed W (w.heap.size + 1) 22 v ∧ W.ownsRow w.heap.size 2 1 v pre.length (cellsOf (pre.map (fun p => (p.val : Int)))) ∧ v.ownBlock ≠ some (w.heap.size + 1 + 1)) ∧ Boxed W (w.heap.size + 1 + 1) 2 (.int .i64 (enf ys F pre)) ∧ Boxed W (w.heap.size + 1 + 1 + 1) 22 (.slice ad T T) ∧ Below w.heap.size w W)
    (fun _ _ _ => False)
    (OwnFrom.and (Own.from (holdsRow_own w.heap.size (w.heap.size + 1) 22 2 1 (fun pre : List Pl => pre.length) (fun pre : List Pl => cellsOf (pre.map (fun p => (p.val : Int)))) (fun _ v => v.ownBlock ≠ some (w.heap.size + 1 + 1))) _) (OwnFrom.and (Own.from (boxed_own _ _ (fun pre => Value.int .i64 (enf ys F pre))) _) (OwnFrom.and (Own.from (boxed_own _ _ (fun _ => Value.slice ad T T)) _) (ownFrom_below (Nat.le_refl _) (by omega)))))
    (fun _ _ _ _ _ hs _ _ => hs)
    ⟨⟨_, bP, own_first E0 (Nat.le_refl _), fun e => by have e' : w.heap.size = w.heap.size + 1 + 1 := Option.some.inj e; omega⟩, bE, bR, B0⟩
    (fun x a' W => ∃ Bx, w.heap.size + 1 + 1 + 1 < Bx ∧ ChAt W Bx (uS (ys.getD x.val 0)) (uF (ys.getD x.val 0)) (uC (ys.getD x.val 0)) (uH (ys.getD x.val 0)) (uP (ys.getD x.val 0)) (uM (ys.getD x.val 0)) (piece ad x.val (chunk ys x.val).toNat) ∧
      a' = { tmps := #[.slice a xs.length cap, .int .i64 F, .int .i64 T, undef, undef, undef, .slice none 0 0, .bool false, .slice ad T T, .bool true, .pointer (some ⟨w.heap.size + 1, 0, none⟩), .pointer (some ⟨w.heap.size + 1 + 1, 0, none⟩), .int .i64 (x.val : Int), .pointer (some ⟨Bx, 0, none⟩),
        .tuple #[.slice ad T T, .bool true], .slice a xs.length cap, .int .i64 T, .tuple #[.slice ad T T, .bool true], .slice ad T T, .bool true, .slice a xs.length cap, .bool true, .bool false, .bool false, .bool true, .bool false, .bool false, .bool false, .int .i64 F,
        .bool (decide ((F : Int) < 0)), .bool (decide ((F : Int) < 0)), .bool (decide ((F : Int) < 0)), .int .i64 F, .int .i64 T, .bool false, .bool (decide ((F : Int) < 0)), .slice (some ⟨w.heap.size, 0, none⟩) 0 0, .int .i64 F, .slice ad T T, .int .i64 F,
        .func (.func 172) #[] #[.pointer (some ⟨w.heap.size + 1 + 1 + 1 + 1, 0, none⟩), .pointer (some ⟨w.heap.size + 1 + 1 + 1, 0, none⟩)], .int .i64 (x.val : Int), cv (uS (ys.getD x.val 0)) (uF (ys.getD x.val 0)) (uC (ys.getD x.val 0)) (uH (ys.getD x.val 0)) (uP (ys.getD x.val 0)) (uM (ys.getD x.val 0)) (piece ad x.val (chunk ys x.val).toNat), undef, undef, undef, undef, undef, undef, undef, undef, undef, undef, undef, undef], defers := [] })
    (fun x a' _ X Y row hs hg hr => by
      obtain ⟨Bx, h1, h2, h3⟩ := hs
      exact ⟨Bx, h1, (hg.block Bx (lt_of_block h2) (fun e => by obtain ⟨_, o, ho, hc⟩ := hr Bx e.symm; rw [show X.heap[Bx]? = _ from h2] at ho; cases ho; cases hc)).trans h2, h3⟩)
    ?assign ?body ?done ?stop
  case assign =>
    rintro l pre x W K ⟨⟨v, c1, c2, c3⟩, c4, c5, c6⟩ hK
    have sW := c6.size
    have hlt := c5.lt
    simp only [encs, piece] at hK ⊢
    generalize uS (ys.getD x.val 0) = s at *
    generalize uF (ys.getD x.val 0) = f at *
    generalize uC (ys.getD x.val 0) = c at *
    generalize uH (ys.getD x.val 0) = g at *
    generalize uP (ys.getD x.val 0) = p at *
    generalize uM (ys.getD x.val 0) = m at *
    generalize (chunk ys x.val).toNat = N at *
    generalize (if N = 0 then ad else Option.map (fun y => y.add x.val) ad) = pd at *
    gi_wp2
    exact hK _ _ ((KeepsOthers.alloc _ _).from _) ⟨(Below.refl _ W).alloc sW _, Below.heap_alloc W _ _ hlt, fun b cs hb => (Below.heap_alloc W _ b (Array.getElem?_eq_some_iff.1 hb).1).trans hb⟩ ⟨⟨v, c1.alloc _, c2.alloc _, c3⟩, c4.alloc _, c5.alloc _, c6.alloc sW _⟩ ⟨W.heap.size, hlt, chAt_new W s f c g p m (.slice pd N N), rfl⟩
  case body =>
    rintro l pre x a' W hl ⟨r, hr'⟩ ⟨⟨v, c1, c2, c3⟩, c4, c5, c6⟩ ⟨Bx, hBx, M, rfl⟩ hlt
    have sW := c6.size
    have x1 := x.isLt
    have x2 := CH x.val
    have x3 := CN x.val
    generalize hN : (chunk ys x.val).toNat = N at *
    have es : enf ys F (pre ++ [x]) = (x.val : Int) + N := by rw [enf_snoc, x3]
    have em : cellsOf ((pre ++ [x]).map (fun p => (p.val : Int))) = cellsOf (pre.map (fun p => (p.val : Int))) ++ [.int .i64 (x.val : Int)] := by simp [cellsOf]
    have hN1 : N ≤ 1000 := by omega
    have ep : (pre ++ [x]).length = pre.length + 1 := by simp
    unfold piece at M ⊢
    generalize uS (ys.getD x.val 0) = s at *
    generalize uF (ys.getD x.val 0) = f at *
    generalize uC (ys.getD x.val 0) = c at *
    generalize uH (ys.getD x.val 0) = g at *
    generalize uP (ys.getD x.val 0) = p at *
    generalize uM (ys.getD x.val 0) = m at *
    generalize (if N = 0 then ad else Option.map (fun y => y.add x.val) ad) = pd at *
    generalize hpost : pre ++ [x] = post at *
    generalize hxv : (x.val : Int) = xv at *
    have hx1 : 0 ≤ xv ∧ xv ≤ 1000 := by omega
    generalize hcs : cellsOf (pre.map (fun p => (p.val : Int))) = cs at *
    have hpl : pre.length < 1000 := by omega
    have cP := c1.cell
    have hfin : ∀ (v' : Value) (w1 : World), w1.ownsRow w.heap.size 2 1 v' (pre.length + 1) (cs ++ [.int .i64 xv]) → (W.alloc (.cells #[.int .i64 xv] 2)).grownBy w1 v.ownBlock → (v'.ownBlock = v.ownBlock ∨ v'.ownBlock = some (W.alloc (.cells #[.int .i64 xv] 2)).heap.size) → _ := fun v' w1 q1 q2 q3 => app_step c1 c2 c3 c4 c5 M sW (by omega) (by omega) (by omega) q1 q2 q3
    have HF : Hid _ := hfin
    have HE : Hid _ := (⟨es, em, ep⟩ : _ ∧ _ ∧ _)
    clear hfin es em ep M hpost hxv x2 x3 STOPS CH CN E0 bP bE bR hcs hN hI
    have SZ : ∀ W, _ := fun W => callsIn_wide (n := 8 - 1 - 1 - 1).2 (size_any s f c g p m pd N N W)
    gi_wp2_with (first
      | (gi_at_builtin; refine wpListIn_append_own_at _ rfl _ _ 22 rfl w.heap.size 2 i0 (.int .i64 0) 1 8 Tryz.underlying22 hi hz0 hz1 hz2 rfl (by decide) _ _ _ rfl (c2.alloc _) ⟨W.heap.size, 0, none⟩ 1 1 [.int .i64 xv] rfl rfl (cell_one_new _ _ _) (by simp [Value.oneCell']) (by unfold maxLen; omega) (by omega) (by simp; omega) ?_
         intro v' w1 hown' hgrow _ hat
         obtain ⟨g', cap', rfl⟩ := ownsRow_succ hown'
         obtain ⟨q1, q2, q3, q4, q5, q6, q7, q8, q9, q10⟩ := HF.out _ _ hown' hgrow hat
         have hc1 := q1.cell
         have hf1 := q1.frozen
         have hc6 := (q6.alloc (cb s f c g p m (.slice pd N N))).cell
         have hf6 := (q6.alloc (cb s f c g p m (.slice pd N N))).frozen
         obtain ⟨m0, m1, m2, m3, m4, m5, m6, _⟩ := chAt_cells q8
         have H2 : Hid _ := q2
         have H3 : Hid _ := q3
         have H4 : Hid _ := q4
         have H5 : Hid _ := q5
         have H6 : Hid _ := q6
         have H7 : Hid _ := q7
         have H9 : Hid _ := q9
         have H10 : Hid _ := q10
         clear hown' hgrow hat q1 q2 q3 q4 q5 q6 q7 q8 q9 q10 HF c1 c2 c4 cP
         have c5' : Boxed W _ _ _ := c5
         clear c5)
      | (refine ⟨trivial, ?_⟩; gi_at_call 83; refine (CallsIn.inRound l (SZ _)).mono ?_; rintro e w' ⟨rfl, rfl⟩))
    obtain ⟨es, em, ep⟩ := HE.out
    obtain ⟨p1, p2, p3, p4, p5, p6, p7⟩ := end_step (o := cb s f c g p m (.slice pd N N)) (e' := .int .i64 (xv + N)) H2.out H3.out H9.out H6.out H7.out (Nat.le_trans sW H5.out.size) (by omega) (by omega) (by omega)
    refine ⟨(H4.out.trans p5).from _, ⟨H5.out.trans p6, p4.trans c5'.symm, fun b cs hb => p7 b cs (H10.out b cs hb)⟩, ⟨_, p1, ?_, H9.out⟩, ?_, p4, (c6.trans H5.out).trans p6⟩
    · rw [ep, em]; exact p2
    · rw [es]; exact p3
  case done =>
    rintro D zs W hD rfl ⟨⟨v, c1, c2, c3⟩, c4, c5, c6⟩ hK
    have cP := c1.cell
    have cE := c4.cell
    have hBD := c6.trans (belowK_b (w := w) (Nat.le_refl _) W D _ (.deferred none) (by omega) hK rfl rfl)
    have RG : rangeOk xs F T = true := by simp only [rangeOk, dr, Bool.true_and, decide_eq_true_eq]; omega
    by_cases hend : enf ys F (plO ys F) = T
    · rw [if_pos hend] at hWB
      have wk : walkR xs F T = some ((plO ys F).map (fun p => (p.val : Int))) := by unfold walkR; rw [if_pos RG]; exact hWB
      have w1' : walkOk xs F T = true := by unfold walkOk; rw [wk]; rfl
      have w2' : walked xs F T = (plO ys F).map (fun p => (p.val : Int)) := by unfold walked; rw [wk]; rfl
      rw [hend] at cE
      have HO : Hid (rows.Own (W.putObj D (.deferred none)) w.heap.size v ((plO ys F).map (fun p => (p.val : Int)))) := by
        have := ownsRow_putObj c2 (.deferred none) hK rfl
        show World.ownsRow _ _ _ _ _ _ _
        rw [List.length_map]
        exact this
      have HBD : Hid _ := hBD
      have HW : Hid (walkOk xs F T = true ∧ walked xs F T = (plO ys F).map (fun p => (p.val : Int))) := ⟨w1', w2'⟩
      clear hWB wk w1' w2' hBD c1 c2 c3 c4 c5 c6 STOPS CH CN E0 bP bE bR hI RG hend B0
      gi_wp2
      refine ⟨by simp, .inl ⟨_, _, rfl, run_takeDeferred hK, ?_⟩⟩
      exact ⟨_, results_tmp2 rfl _ _ _, v, by rw [HW.out.1]; rfl, by rw [HW.out.2]; exact HO, HBD⟩
    · rw [if_neg hend] at hWB
      have wk : walkR xs F T = none := by unfold walkR; rw [if_pos RG]; exact hWB
      have w1' : walkOk xs F T = false := by unfold walkOk; rw [wk]; rfl
      have w2' : walked xs F T = [] := by unfold walked; rw [wk]; rfl
      have HBD : Hid _ := hBD
      have HW : Hid (walkOk xs F T = false ∧ walked xs F T = []) := ⟨w1', w2'⟩
      clear hWB wk w1' w2' hBD c1 c2 c3 c4 c5 c6 STOPS CH CN E0 bP bE bR hI RG B0
      generalize enf ys F (plO ys F) = en at *
      have hend' : (en == (T : Int)) = false := by simpa using hend
      gi_wp2
      refine ⟨by simp, .inl ⟨_, _, rfl, run_takeDeferred hK, ?_⟩⟩
      exact ⟨_, results_tmp2 rfl _ _ _, _, by rw [HW.out.1]; rfl, by rw [HW.out.2]; exact own_nil _ _, HBD⟩
  case stop =>
    rintro D c pre W _ _ h _
    exact h.elim

theorem implWalk (w : World) (v : Value) (xs : List Int) (f : Int) (t : Int) (h : IntsAt w v xs) (_hl : xs.length ≤ 1048576) (ha : AllI xs) (_hf : I64 f) (ht : I64 t) :
    Calls Tryz.prog 148 #[v, .int .i64 f, .int .i64 t] w fun e w' => ∃ v', e = .returned (.tuple #[v', .bool (walkOk xs f t)]) ∧ rows.Own w' w.heap.size v' (walked xs f t) ∧ Below w.heap.size w w' := by
  cases d : rangeOk xs f t
  · have wk : walkR xs f t = none := by unfold walkR; rw [d]; rfl
    have w1 : walkOk xs f t = false := by unfold walkOk; rw [wk]; rfl
    have w2 : walked xs f t = [] := by unfold walked; rw [wk]; rfl
    rw [w1, w2]
    exact walk_no h ht d
  · have d' := d
    simp only [rangeOk, Bool.and_eq_true, decide_eq_true_eq] at d'
    obtain ⟨dr, f0, ft, tl⟩ := d'
    obtain ⟨F, rfl⟩ := Int.eq_ofNat_of_zero_le f0
    obtain ⟨T, rfl⟩ : ∃ T : Nat, t = T := Int.eq_ofNat_of_zero_le (by omega)
    have h' := h
    obtain ⟨a, cap, rfl, _, _, _, _⟩ := h
    exact walk_yes h' ha dr F T (by omega) (by omega)
end Go.Proofs.YtmhbdmmpmagbkaaGreat.walks
namespace Go.Proofs.YtmhbdmmpmagbkaaGreat.hp
open Go.RowKit rows heads words walks
set_option maxRecDepth 100000
set_option linter.unusedVariables false

/-- A chunk that knows its place. -/
structure Pd where
  s : Int
  f : Int
  c : Int
  h : Int
  p : Bool
  m : Bool
  u : Value
  pl : Int
abbrev pdv (d : Pd) : Value := .agg #[(.int .i64 d.s), (.int .i64 d.f), (.int .i64 d.c), (.int .i64 d.h), (.bool d.p), (.bool d.m), d.u, (.int .i64 d.pl)]
abbrev pdb (d : Pd) : Obj := .cells #[(.int .i64 d.s), (.int .i64 d.f), (.int .i64 d.c), (.int .i64 d.h), (.bool d.p), (.bool d.m), d.u, (.int .i64 d.pl)] 89
abbrev pdD : Pd := ⟨0, 0, 0, 0, false, false, .slice none 0 0, 0⟩
/-- The chunk at a place of a row. -/
def pdOf (a : Option Addr) (xs : List Int) (k : Nat) : Pd := ⟨uS (xs.getD k 0), uF (xs.getD k 0), uC (xs.getD k 0), uH (xs.getD k 0), uP (xs.getD k 0), uM (xs.getD k 0), piece a k (chunk xs k).toNat, k⟩
def cellsP : List Pd → List Value
  | [] => []
  | d :: ds => (.int .i64 d.s) :: (.int .i64 d.f) :: (.int .i64 d.c) :: (.int .i64 d.h) :: (.bool d.p) :: (.bool d.m) :: d.u :: (.int .i64 d.pl) :: cellsP ds
theorem cellsP_length : ∀ ds : List Pd, (cellsP ds).length = ds.length * 8
  | [] => rfl
  | _ :: ds => by simp [cellsP, cellsP_length ds]; omega
theorem cellsP_append : ∀ ds es : List Pd, cellsP (ds ++ es) = cellsP ds ++ cellsP es
  | [], _ => rfl
  | _ :: ds, es => by simp [cellsP, cellsP_append ds es]
theorem cellsP_at : ∀ (ds : List Pd) (i : Nat), i < ds.length → (cellsP ds)[i * 8]? = some (.int .i64 (ds.getD i pdD).s) ∧ (cellsP ds)[i * 8 + 1]? = some (.int .i64 (ds.getD i pdD).f) ∧ (cellsP ds)[i * 8 + 2]? = some (.int .i64 (ds.getD i pdD).c) ∧ (cellsP ds)[i * 8 + 3]? = some (.int .i64 (ds.getD i pdD).h) ∧ (cellsP ds)[i * 8 + 4]? = some (.bool (ds.getD i pdD).p) ∧ (cellsP ds)[i * 8 + 5]? = some (.bool (ds.getD i pdD).m) ∧ (cellsP ds)[i * 8 + 6]? = some ((ds.getD i pdD).u) ∧ (cellsP ds)[i * 8 + 7]? = some (.int .i64 (ds.getD i pdD).pl)
  | [], _, h => by simp at h
  | e :: ds, 0, _ => by simp [cellsP]
  | e :: ds, i + 1, h => by
    have := cellsP_at ds i (by simpa using h)
    rw [show (i + 1) * 8 = i * 8 + 1 + 1 + 1 + 1 + 1 + 1 + 1 + 1 by omega]
    simpa [cellsP] using this
/-- Each one's words are a slice. -/
def SlicesP (ds : List Pd) : Prop := ∀ d ∈ ds, ∃ a n c, d.u = .slice a n c
theorem cellsP_one : ∀ {ds : List Pd}, SlicesP ds → ∀ v ∈ cellsP ds, v.oneCell' = true
  | [], _, v, h => by simp [cellsP] at h
  | d :: ds, hs, v, h => by
    simp only [cellsP, List.mem_cons] at h
    rcases h with rfl | rfl | rfl | rfl | rfl | rfl | rfl | rfl | h
    · rfl
    · rfl
    · rfl
    · rfl
    · rfl
    · rfl
    · obtain ⟨a, n, c, e⟩ := hs d (List.mem_cons_self ..)
      rw [e]; rfl
    · rfl
    · exact cellsP_one (fun d' hd => hs d' (List.mem_cons_of_mem _ hd)) v h
/-- The row may be read. -/
def PdsAt (w : World) (v : Value) (ds : List Pd) : Prop :=
  ∃ a cap, v = .slice a ds.length cap ∧ ds.length ≤ cap ∧ cap ≤ maxLen ∧ (a = none → cap = 0) ∧
    (0 < ds.length → ∃ b off, a = some ⟨b, off, none⟩ ∧ b < w.heap.size ∧ ∀ i, i < ds.length → w.cell? ⟨b, off + i * 8, none⟩ = some (.int .i64 (ds.getD i pdD).s) ∧ w.cell? ⟨b, off + i * 8 + 1, none⟩ = some (.int .i64 (ds.getD i pdD).f) ∧ w.cell? ⟨b, off + i * 8 + 2, none⟩ = some (.int .i64 (ds.getD i pdD).c) ∧ w.cell? ⟨b, off + i * 8 + 3, none⟩ = some (.int .i64 (ds.getD i pdD).h) ∧ w.cell? ⟨b, off + i * 8 + 4, none⟩ = some (.bool (ds.getD i pdD).p) ∧ w.cell? ⟨b, off + i * 8 + 5, none⟩ = some (.bool (ds.getD i pdD).m) ∧ w.cell? ⟨b, off + i * 8 + 6, none⟩ = some ((ds.getD i pdD).u) ∧ w.cell? ⟨b, off + i * 8 + 7, none⟩ = some (.int .i64 (ds.getD i pdD).pl))
theorem pdsAt_below {w w' : World} {v : Value} {ds : List Pd} (h : PdsAt w v ds) (hb : Below w.heap.size w w') : PdsAt w' v ds := by
  obtain ⟨a, cap, rfl, h1, h2, h4, h3⟩ := h
  refine ⟨a, cap, rfl, h1, h2, h4, fun hp => ?_⟩
  obtain ⟨b, off, rfl, hlt, hc⟩ := h3 hp
  refine ⟨b, off, rfl, Nat.lt_of_lt_of_le hlt hb.size, fun i hi => ?_⟩
  obtain ⟨k0, k1, k2, k3, k4, k5, k6, k7⟩ := hc i hi
  exact ⟨(hb.cell (p := ⟨b, _, none⟩) hlt).trans k0, (hb.cell (p := ⟨b, _, none⟩) hlt).trans k1, (hb.cell (p := ⟨b, _, none⟩) hlt).trans k2, (hb.cell (p := ⟨b, _, none⟩) hlt).trans k3, (hb.cell (p := ⟨b, _, none⟩) hlt).trans k4, (hb.cell (p := ⟨b, _, none⟩) hlt).trans k5, (hb.cell (p := ⟨b, _, none⟩) hlt).trans k6, (hb.cell (p := ⟨b, _, none⟩) hlt).trans k7⟩
/-- A row of the call's own. -/
def OwnP (w : World) (base : Nat) (v : Value) (ds : List Pd) : Prop := w.ownsRow base 89 8 v ds.length (cellsP ds)
theorem ownP_below {w w' : World} {base : Nat} {v : Value} {ds : List Pd} (h : OwnP w base v ds) (hb : Below w.heap.size w w') : OwnP w' base v ds := row_ch (S := []) h (ch_below hb) (by simp)
theorem ownP_base {w : World} {base base' : Nat} {v : Value} {ds : List Pd} (h : OwnP w base v ds) (hb : base' ≤ base) : OwnP w base' v ds := by
  obtain ⟨h0, ⟨h1, h2⟩ | ⟨g, cap, cur, h1, hg, hh⟩⟩ := h
  · exact ⟨h0, .inl ⟨h1, h2⟩⟩
  · exact ⟨h0, .inr ⟨g, cap, cur, h1, Nat.le_trans hb hg, hh⟩⟩
theorem ownP_at {w : World} {base : Nat} {v : Value} {ds : List Pd} (h : OwnP w base v ds) : PdsAt w v ds := by
  have h' := h
  obtain ⟨_, ⟨rfl, hn⟩ | ⟨g, cap, cur, rfl, hg, hh, hle, hm, hs, ht⟩⟩ := h
  · have : ds = [] := by simpa using hn
    subst this
    exact ⟨none, 0, rfl, by simp, by decide, fun _ => rfl, fun hp => absurd hp (by simp)⟩
  · refine ⟨_, cap, rfl, hle, hm, fun h => (by cases h), fun hp => ⟨g, 0, rfl, lt_of_block hh, fun i hi => ?_⟩⟩
    obtain ⟨k0, k1, k2, k3, k4, k5, k6, k7⟩ := cellsP_at ds i hi
    have cl : ∀ j, j < ds.length * 8 → w.cell? ⟨g, 0 + j, none⟩ = (cellsP ds)[j]? := fun j hj => by rw [Nat.zero_add]; exact World.ownsRow.cellAt h' j (by omega)
    refine ⟨(show w.cell? ⟨g, 0 + i * 8, none⟩ = _ from (cl (i * 8) (by omega)).trans k0), (show w.cell? ⟨g, 0 + i * 8 + 1, none⟩ = _ from by rw [Nat.add_assoc]; exact (cl (i * 8 + 1) (by omega)).trans k1), (show w.cell? ⟨g, 0 + i * 8 + 2, none⟩ = _ from by rw [Nat.add_assoc]; exact (cl (i * 8 + 2) (by omega)).trans k2), (show w.cell? ⟨g, 0 + i * 8 + 3, none⟩ = _ from by rw [Nat.add_assoc]; exact (cl (i * 8 + 3) (by omega)).trans k3), (show w.cell? ⟨g, 0 + i * 8 + 4, none⟩ = _ from by rw [Nat.add_assoc]; exact (cl (i * 8 + 4) (by omega)).trans k4), (show w.cell? ⟨g, 0 + i * 8 + 5, none⟩ = _ from by rw [Nat.add_assoc]; exact (cl (i * 8 + 5) (by omega)).trans k5), (show w.cell? ⟨g, 0 + i * 8 + 6, none⟩ = _ from by rw [Nat.add_assoc]; exact (cl (i * 8 + 6) (by omega)).trans k6), (show w.cell? ⟨g, 0 + i * 8 + 7, none⟩ = _ from by rw [Nat.add_assoc]; exact (cl (i * 8 + 7) (by omega)).trans k7)⟩
theorem pds_slice {w : World} {v : Value} {ds : List Pd} (h : PdsAt w v ds) : ∃ a c, v = .slice a ds.length c := by
  obtain ⟨a, c, e, _⟩ := h
  exact ⟨a, c, e⟩
/-- One chunk read. -/
theorem pds_cell {w : World} {a : Option Addr} {n cap : Nat} {ds : List Pd} (h : PdsAt w (.slice a n cap) ds) {i : Nat} (hi : i < ds.length) : ∃ b off, a = some ⟨b, off, none⟩ ∧ b < w.heap.size ∧ w.cell? ⟨b, off + i * 8, none⟩ = some (.int .i64 (ds.getD i pdD).s) ∧ w.cell? ⟨b, off + i * 8 + 1, none⟩ = some (.int .i64 (ds.getD i pdD).f) ∧ w.cell? ⟨b, off + i * 8 + 2, none⟩ = some (.int .i64 (ds.getD i pdD).c) ∧ w.cell? ⟨b, off + i * 8 + 3, none⟩ = some (.int .i64 (ds.getD i pdD).h) ∧ w.cell? ⟨b, off + i * 8 + 4, none⟩ = some (.bool (ds.getD i pdD).p) ∧ w.cell? ⟨b, off + i * 8 + 5, none⟩ = some (.bool (ds.getD i pdD).m) ∧ w.cell? ⟨b, off + i * 8 + 6, none⟩ = some ((ds.getD i pdD).u) ∧ w.cell? ⟨b, off + i * 8 + 7, none⟩ = some (.int .i64 (ds.getD i pdD).pl) := by
  obtain ⟨a', c', e, _, _, _, hc⟩ := h
  injection e with e1 e2 e3
  subst e1
  obtain ⟨b, off, rfl, hb, hcc⟩ := hc (by omega)
  exact ⟨b, off, rfl, hb, hcc i hi⟩
theorem pds_cap {w : World} {a : Option Addr} {n cap : Nat} {ds : List Pd} (h : PdsAt w (.slice a n cap) ds) : n = ds.length ∧ n ≤ cap ∧ cap ≤ 9223372036854775807 := by
  obtain ⟨a', c', e, h1, h2, _, _⟩ := h
  injection e with e1 e2 e3
  subst e3
  exact ⟨e2, by omega, h2⟩
theorem pds_news {w : World} {ad : Addr} {n cap : Nat} {ds : List Pd} (h : PdsAt w (.slice (some ad) n cap) ds) : ∀ j v, (cellsP ds)[j]? = some v → w.cell? (ad.add j) = some v := by
  intro j v hj
  have hl : j < (cellsP ds).length := (List.getElem?_eq_some_iff.1 hj).1
  rw [cellsP_length] at hl
  obtain ⟨i, hi⟩ : ∃ i, j / 8 = i := ⟨_, rfl⟩
  have hd : i < ds.length := by omega
  obtain ⟨b, off, e, _, k0, k1, k2, k3, k4, k5, k6, k7⟩ := pds_cell h hd
  injection e with e
  subst e
  obtain ⟨q0, q1, q2, q3, q4, q5, q6, q7⟩ := cellsP_at ds i hd
  have e2 : (⟨b, off, none⟩ : Addr).add j = ⟨b, off + j, none⟩ := by cases j <;> simp [Addr.add]
  rw [e2]
  rcases (show j = i * 8 ∨ j = i * 8 + 1 ∨ j = i * 8 + 2 ∨ j = i * 8 + 3 ∨ j = i * 8 + 4 ∨ j = i * 8 + 5 ∨ j = i * 8 + 6 ∨ j = i * 8 + 7 by omega) with e | e | e | e | e | e | e | e
  · rw [e] at hj
    rw [q0] at hj
    cases hj
    rw [e]
    exact k0
  · rw [e] at hj
    rw [q1] at hj
    cases hj
    rw [e, ← Nat.add_assoc]
    exact k1
  · rw [e] at hj
    rw [q2] at hj
    cases hj
    rw [e, ← Nat.add_assoc]
    exact k2
  · rw [e] at hj
    rw [q3] at hj
    cases hj
    rw [e, ← Nat.add_assoc]
    exact k3
  · rw [e] at hj
    rw [q4] at hj
    cases hj
    rw [e, ← Nat.add_assoc]
    exact k4
  · rw [e] at hj
    rw [q5] at hj
    cases hj
    rw [e, ← Nat.add_assoc]
    exact k5
  · rw [e] at hj
    rw [q6] at hj
    cases hj
    rw [e, ← Nat.add_assoc]
    exact k6
  · rw [e] at hj
    rw [q7] at hj
    cases hj
    rw [e, ← Nat.add_assoc]
    exact k7
theorem infoP : (Tryz.prog.info? 89).map (fun i => (i.zero, i.size, i.bytes)) = some (some (pdv pdD), 8, 72) := by kernel_rfl
end Go.Proofs.YtmhbdmmpmagbkaaGreat.hp
namespace Go.Proofs.YtmhbdmmpmagbkaaGreat.hp
open Go.RowKit rows heads words walks
set_option maxRecDepth 100000
set_option linter.unusedVariables false
set_option linter.unusedSimpArgs false

/-- The chunks of a walk. -/
def pdsOf (a : Option Addr) (xs : List Int) (ps : List Int) : List Pd := ps.map (fun p => pdOf a xs p.toNat)
theorem pdsOf_slices (a : Option Addr) (xs : List Int) (ps : List Int) : SlicesP (pdsOf a xs ps) := by
  intro d hd
  obtain ⟨p, _, rfl⟩ := List.mem_map.1 hd
  exact ⟨_, _, _, rfl⟩
theorem pd_new (W : World) (d : Pd) : ∀ j u, (cellsP [d])[j]? = some u → (W.alloc (pdb d)).cell? ((⟨W.heap.size, 0, none⟩ : Addr).add j) = some u := by
  intro j u hj
  have e2 : (⟨W.heap.size, 0, none⟩ : Addr).add j = ⟨W.heap.size, j, none⟩ := by cases j <;> simp [Addr.add]
  rw [e2]
  have hl : j < 8 := by have := (List.getElem?_eq_some_iff.1 hj).1; simpa [cellsP] using this
  have hb : (W.alloc (pdb d)).heap[W.heap.size]? = some (pdb d) := heap_alloc_new W _
  rcases (show j = 0 ∨ j = 1 ∨ j = 2 ∨ j = 3 ∨ j = 4 ∨ j = 5 ∨ j = 6 ∨ j = 7 by omega) with rfl | rfl | rfl | rfl | rfl | rfl | rfl | rfl
  all_goals
    simp only [cellsP, List.getElem?_cons_zero, List.getElem?_cons_succ, Option.some.injEq] at hj
    subst hj
    unfold World.cell?
    rw [hb]
    rfl
theorem ownP_app {W : World} {base : Nat} {v : Value} {ds : List Pd} {d : Pd} (h : W.ownsRow base 89 8 v (ds.length + 1) (cellsP ds ++ cellsP [d])) : OwnP W base v (ds ++ [d]) := by
  unfold OwnP
  rw [cellsP_append, List.length_append]
  exact h

theorem ownP_first {W : World} {base g : Nat} (hg : W.heap[g]? = some (.cells #[] 89 (0, 0))) (hb : base ≤ g) : OwnP W base (.slice (some ⟨g, 0, none⟩) 0 0) [] :=
  ⟨rfl, .inr ⟨g, 0, #[], rfl, hb, hg, Nat.le_refl _, by decide, rfl, rfl⟩⟩
set_option maxHeartbeats 8000000 in
theorem placedIn_any {w : World} {a : Option Addr} {cap : Nat} {xs : List Int} (h : IntsAt w (.slice a xs.length cap) xs) (hl : xs.length ≤ 1048576) (ha : AllI xs) (f t : Int) (hf : I64 f) (ht : I64 t) :
    Calls Tryz.prog 120 #[.slice a xs.length cap, .int .i64 f, .int .i64 t] w fun e w' => ∃ v', e = .returned (.tuple #[v', .bool (walkOk xs f t)]) ∧ OwnP w' w.heap.size v' (pdsOf a xs (walked xs f t)) ∧ Below w.heap.size w w' := by
  obtain ⟨L, hL⟩ : ∃ L, walked xs f t = L := ⟨_, rfl⟩
  obtain ⟨ok, hok⟩ : ∃ ok, walkOk xs f t = ok := ⟨_, rfl⟩
  have HM : Hid (∀ x ∈ L, ∃ j : Nat, x = j ∧ j < xs.length ∧ rowOk xs = true ∧ chunk xs j ≠ 0) := fun x hx => walked_mem (hL ▸ hx)
  have hLl : L.length ≤ 1000 := by have := (walked_length xs f t).1; rw [hL] at this; exact this
  have WK := implWalk w _ xs f t h hl ha hf ht
  rw [hL, hok] at WK
  rw [hL, hok]
  obtain ⟨i0, hi, hz0, hz1, hz2⟩ := info_parts infoP
  have HI : Hid _ := And.intro hi (And.intro hz0 (And.intro hz1 hz2))
  have HH : Hid (IntsAt w (.slice a xs.length cap) xs) := h
  have HA : Hid _ := ha
  clear hL hok hi hz0 hz1 hz2 h ha
  go_enter Tryz.func120, Tryz.ntmps120
  go_wp2_with fail
  refine WK.mono ?_
  clear WK
  rintro e w1 ⟨vl, rfl, O1, b1⟩
  have HO1 : Hid (rows.Own w1 w.heap.size vl L) := O1
  obtain ⟨la, lc, rfl, hl1, hl2, _, _⟩ := own_ints O1
  have HB1 : Hid _ := b1
  have s1 := b1.size
  have OE : OwnP (w1.alloc (.cells #[] 89)) w.heap.size (.slice (some ⟨w1.heap.size, 0, none⟩) 0 0) [] := ownP_first (heap_alloc_new w1 _) s1
  have BE : Below w.heap.size w (w1.alloc (.cells #[] 89)) := b1.alloc s1 _
  have HOE : Hid _ := OE
  have HBE : Hid _ := BE
  have HOL : Hid (rows.Own (w1.alloc (.cells #[] 89)) w.heap.size (.slice la L.length lc) L) := own_below HO1.out ((Below.refl _ _).alloc (Nat.le_refl _) _)
  have HLT : Hid (∀ k, (Value.slice la L.length lc).ownBlock = some k → k < w1.heap.size) := fun k e => (World.ownsRow.lt HO1.out k e).2
  have sX : w1.heap.size ≤ (w1.alloc (.cells #[] 89)).heap.size := by simp
  clear O1 b1 OE BE
  go_wp2_with fail
  generalize (w1.alloc (.cells #[] 89)) = X at *
  go_loopw [10, 25] (fun o i wr => ∃ (k : Nat) (v : Value), v = o ∧ k ≤ L.length ∧ i = .int .i64 (k : Int) ∧ OwnP wr w.heap.size v (pdsOf a xs (L.take k)) ∧ (∀ b, v.ownBlock = some b → w1.heap.size ≤ b) ∧ rows.Own wr w.heap.size (.slice la L.length lc) L ∧ w1.heap.size ≤ wr.heap.size ∧ Below w.heap.size w wr) (fun _ i _ => L.length - (intOf i).toNat)
  case atStart => exact ⟨0, _, rfl, Nat.zero_le _, rfl, HOE.out, fun b e => by simp [Value.ownBlock] at e; omega, HOL.out, sX, HBE.out⟩
  case round =>
    obtain ⟨k, v, rfl, hk, rfl, hO, hbk, hOL, hws, hB⟩ := hrel
    by_cases hlt : k < L.length
    · have hlt' : (k : Int) < (L.length : Int) := by omega
      obtain ⟨j, hj, hjl, hro, hch⟩ := HM.out (L.getD k 0) (by rw [List.getD_eq_getElem?_getD, List.getElem?_eq_getElem hlt]; exact List.getElem_mem hlt)
      obtain ⟨la', lc', e', _, _, _, hcy⟩ := own_ints hOL
      injection e' with e1 e2 e3
      subst e1 e3
      obtain ⟨lb, lo, rfl, _, hcy⟩ := hcy (by omega)
      have x0 := hcy k hlt
      rw [hj] at x0
      have hokj : okAt xs (j : Int) = true := by simp only [okAt, atOk, hro, Bool.true_and, Bool.and_eq_true, decide_eq_true_eq]; omega
      have CH := chunkOf_in (intsAt_below HH.out hB) hl HA.out j hokj
      have ech : chRes a xs j = .tuple #[cv (uS (xs.getD j 0)) (uF (xs.getD j 0)) (uC (xs.getD j 0)) (uH (xs.getD j 0)) (uP (xs.getD j 0)) (uM (xs.getD j 0)) (piece a j (chunk xs j).toNat), .bool true] := by unfold chRes; rw [if_neg hch]
      rw [ech] at CH
      obtain ⟨pa, pn, pc, hpe⟩ : ∃ pa pn pc, piece a j (chunk xs j).toNat = .slice pa pn pc := ⟨_, _, _, rfl⟩
      have HPD : Hid (pdOf a xs j = ⟨uS (xs.getD j 0), uF (xs.getD j 0), uC (xs.getD j 0), uH (xs.getD j 0), uP (xs.getD j 0), uM (xs.getD j 0), .slice pa pn pc, j⟩) := by show pdOf a xs j = _; unfold pdOf; rw [hpe]
      have HNX : Hid (pdsOf a xs (L.take (k + 1)) = pdsOf a xs (L.take k) ++ [pdOf a xs j]) := by
        show pdsOf a xs (L.take (k + 1)) = _
        unfold pdsOf
        rw [List.take_add_one, List.map_append, List.getElem?_eq_getElem hlt]
        have : L[k] = (j : Int) := by rw [← hj, List.getD_eq_getElem?_getD, List.getElem?_eq_getElem hlt]; rfl
        simp [this]
      rw [hpe] at CH
      rw [HPD.out] at HNX
      have hdl : (pdsOf a xs (L.take k)).length = k := by unfold pdsOf; simp; omega
      clear hj hcy ech hpe hokj hro hch HPD
      generalize uF (xs.getD j 0) = f' at *
      generalize uS (xs.getD j 0) = s' at *
      generalize uC (xs.getD j 0) = c' at *
      generalize uH (xs.getD j 0) = g' at *
      generalize uP (xs.getD j 0) = p' at *
      generalize uM (xs.getD j 0) = m' at *
      generalize pdsOf a xs (L.take k) = ds at *
      have HOV : Hid _ := hO
      have HOL2 : Hid _ := hOL
      have HB2 : Hid _ := hB
      have HBK : Hid _ := hbk
      clear hO hOL hB hbk
      go_wp2_with fail
      refine CH.mono ?_
      clear CH
      rintro e w3 ⟨rfl, b3⟩
      have s3 := b3.size
      have B4 : Below wr.heap.size wr (w3.alloc (cb s' f' c' g' p' m' (.slice pa pn pc))) := b3.alloc b3.size _
      have T4 := chAt_new w3 s' f' c' g' p' m' (.slice pa pn pc)
      obtain ⟨t0, t1, t2, t3, t4, t5, t6, _⟩ := chAt_cells T4
      have O4 := ownP_below HOV.out B4
      have L4 := own_below HOL2.out B4
      have W4 := HB2.out.trans (B4.mono HB2.out.size)
      have s4 : w3.heap.size < (w3.alloc (cb s' f' c' g' p' m' (.slice pa pn pc))).heap.size := by simp
      obtain ⟨va, vc, rfl⟩ := pds_slice (ownP_at HOV.out)
      have HDL : Hid _ := hdl
      have bdl : ds.length ≤ 1000 := by omega
      clear hdl HOV HOL2 HB2 b3 T4
      go_upto_region 7 with fail
      generalize hY : w3.alloc (cb s' f' c' g' p' m' (.slice pa pn pc)) = Y at *
      clear hY B4
      have HOA : Hid ((Y.alloc (pdb ⟨s', f', c', g', p', m', .slice pa pn pc, j⟩)).ownsRow w.heap.size 89 8 (.slice va ds.length vc) ds.length (cellsP ds)) := World.ownsRow.alloc O4 _
      have HNW : Hid _ := pd_new Y ⟨s', f', c', g', p', m', .slice pa pn pc, j⟩
      have HON : Hid (∀ v ∈ cellsP [(⟨s', f', c', g', p', m', .slice pa pn pc, j⟩ : Pd)], v.oneCell' = true) := cellsP_one (fun d hd => by rw [List.mem_singleton] at hd; subst hd; exact ⟨_, _, _, rfl⟩)
      have sb : w.heap.size ≤ (Y.alloc (pdb ⟨s', f', c', g', p', m', .slice pa pn pc, j⟩)).heap.size := by have := W4.size; simp; omega
      have HSTEP : Hid (∀ (v' : Value) (w5 : World), w5.ownsRow w.heap.size 89 8 v' (ds.length + 1) (cellsP ds ++ cellsP [(⟨s', f', c', g', p', m', .slice pa pn pc, j⟩ : Pd)]) → (Y.alloc (pdb ⟨s', f', c', g', p', m', .slice pa pn pc, j⟩)).grownBy w5 (Value.slice va ds.length vc).ownBlock → (v'.ownBlock = (Value.slice va ds.length vc).ownBlock ∨ v'.ownBlock = some (Y.alloc (pdb ⟨s', f', c', g', p', m', .slice pa pn pc, j⟩)).heap.size) → (∃ a n c, v' = .slice a n c) ∧ OwnP w5 w.heap.size v' (pdsOf a xs (L.take (k + 1))) ∧ (∀ b, v'.ownBlock = some b → w1.heap.size ≤ b) ∧ rows.Own w5 w.heap.size (.slice (some ⟨lb, lo, none⟩) L.length lc) L ∧ w1.heap.size ≤ w5.heap.size ∧ Below w.heap.size w w5) := by
        intro v' w5 h1 h2 h3
        have O5 := ownP_app h1
        have hv := pds_slice (ownP_at O5)
        have C1 : Ch (blk (Value.slice va ds.length vc)) Y (Y.alloc (pdb ⟨s', f', c', g', p', m', .slice pa pn pc, j⟩)) := ch_below ((Below.refl _ _).alloc (Nat.le_refl _) _)
        have C2 := C1.trans (ch_grown h2)
        have hsz := C2.size
        refine ⟨?_, ?_, ?_, ?_, by omega, ?_⟩
        · obtain ⟨a', c', e⟩ := hv; exact ⟨a', _, c', e⟩
        · rw [HNX.out]; exact O5
        · intro b hb
          rcases h3 with h3 | h3
          · exact HBK.out b (by rw [← h3]; exact hb)
          · rw [h3] at hb; injection hb with hb; simp at hb; omega
        · refine row_ch L4 C2 (fun q hq e => ?_)
          have q1 := HLT.out q (by unfold blk at hq; exact Option.mem_toList.1 hq)
          have q2 := HBK.out q (by unfold blk at e; exact Option.mem_toList.1 e)
          omega
        · exact W4.trans (below_ch C2 W4.size (fun q hq => (blk_lt O4 q hq).1))
      clear O4 L4 W4
      go_wp2_with (refine wpList_append_own_at _ rfl (.tmp 35) (.tmp 39) 46 rfl w.heap.size 89 i0 (pdv pdD) 8 72 Tryz.underlying46 HI.out.1 HI.out.2.1 HI.out.2.2.1 HI.out.2.2.2 rfl (by decide) (.slice va ds.length vc) ds.length (cellsP ds) rfl HOA.out ⟨Y.heap.size, 0, none⟩ 1 1 (cellsP [(⟨s', f', c', g', p', m', .slice pa pn pc, j⟩ : Pd)]) rfl rfl HNW.out HON.out (by unfold maxLen; omega) (by omega) sb ?_; intro v' w5 h1 h2 _ h3; obtain ⟨⟨na, nn, nc, rfl⟩, hh⟩ := HSTEP.out v' w5 h1 h2 h3; have HFN : Hid _ := hh; clear h1 h2 h3 hh HSTEP HOA HNW HON)
      exact ⟨⟨k + 1, _, rfl, by omega, by go_num, HFN.out.1, HFN.out.2.1, HFN.out.2.2.1, HFN.out.2.2.2.1, HFN.out.2.2.2.2⟩, by simp [intOf]; omega⟩
    · have hlt' : ¬ (k : Int) < (L.length : Int) := by omega
      have HF : Hid (OwnP wr w.heap.size v (pdsOf a xs L)) := by
        show OwnP _ _ _ _
        have := hO
        rwa [List.take_of_length_le (show L.length ≤ k by omega)] at this
      have HBF : Hid _ := hB
      obtain ⟨va, vc, rfl⟩ := pds_slice (ownP_at hO)
      clear hO hbk hOL hB
      go_wp2
      go_ret2
      exact ⟨_, rfl, HF.out, HBF.out⟩
end Go.Proofs.YtmhbdmmpmagbkaaGreat.hp
namespace Go.Proofs.YtmhbdmmpmagbkaaGreat.hp
open Go.RowKit rows heads words walks
set_option maxRecDepth 100000
set_option linter.unusedVariables false
set_option linter.unusedSimpArgs false

theorem ints_cellI {w : World} {a : Option Addr} {n cap : Nat} {xs : List Int} (h : IntsAt w (.slice a n cap) xs) {k : Nat} (hk : k < xs.length) : ∃ b off, a = some ⟨b, off, none⟩ ∧ b < w.heap.size ∧ w.cell? ⟨b, off + k, none⟩ = some (.int .i64 (xs.getD k 0)) := by
  obtain ⟨a', c', e, _, _, _, hc⟩ := h
  injection e with e1 e2 e3
  subst e1
  obtain ⟨b, off, rfl, hb, hcc⟩ := hc (by omega)
  exact ⟨b, off, rfl, hb, hcc k hk⟩
/-- The first that is so; -1: none. -/
def idxP (t : Pd → Bool) (ds : List Pd) : Int := match ds.findIdx? t with | some i => (i : Int) | none => -1
theorem idxP_at {t : Pd → Bool} {ds : List Pd} {k : Nat} (hk : k < ds.length) (h : t (ds.getD k pdD) = true) (hn : ∀ m, m < k → t (ds.getD m pdD) = false) : idxP t ds = k := by
  unfold idxP
  have e : ds.findIdx? t = some k := by
    rw [List.findIdx?_eq_some_iff_getElem]
    refine ⟨hk, ?_, fun j hj => ?_⟩
    · rwa [List.getD_eq_getElem?_getD, List.getElem?_eq_getElem hk] at h
    · have := hn j hj
      rw [List.getD_eq_getElem?_getD, List.getElem?_eq_getElem (by omega)] at this
      simpa using this
  rw [e]
theorem idxP_no {t : Pd → Bool} {ds : List Pd} (hn : ∀ m, m < ds.length → t (ds.getD m pdD) = false) : idxP t ds = -1 := by
  unfold idxP
  have e : ds.findIdx? t = none := by
    rw [List.findIdx?_eq_none_iff]
    intro e he
    obtain ⟨i, hi, rfl⟩ := List.getElem_of_mem he
    have := hn i hi
    rw [List.getD_eq_getElem?_getD, List.getElem?_eq_getElem hi] at this
    simpa using this
  rw [e]
theorem idxP_any (t : Pd → Bool) (ds : List Pd) : decide (idxP t ds ≥ 0) = ds.any t := by
  unfold idxP
  cases e : ds.findIdx? t with
  | none =>
    rw [List.findIdx?_eq_none_iff] at e
    have : ds.any t = false := by rw [List.any_eq_false]; intro x hx; simp [e x hx]
    rw [this]; decide
  | some i =>
    rw [List.findIdx?_eq_some_iff_getElem] at e
    obtain ⟨hi, h1, _⟩ := e
    have : ds.any t = true := by rw [List.any_eq_true]; exact ⟨_, List.getElem_mem hi, h1⟩
    rw [this]
    simp
/-- What the room must not have. -/
def upOnly (d : Pd) : Bool := (d.f == 6) || d.p
def freeP (d : Pd) : Bool := d.f == 6
set_option maxHeartbeats 2000000 in
theorem isUp_any (d : Pd) {ua : Option Addr} {un uc : Nat} (hu : d.u = .slice ua un uc) (w : World) :
    Calls Tryz.prog 122 #[pdv d] w fun e w' => e = .returned (.bool (upOnly d)) ∧ Below w.heap.size w w' := by
  obtain ⟨s, f, c, h, p, m, u, pl⟩ := d
  simp only at hu
  subst hu
  unfold upOnly
  have B0 : Below w.heap.size w (w.alloc (pdb ⟨s, f, c, h, p, m, .slice ua un uc, pl⟩)) := (Below.refl _ _).alloc (Nat.le_refl _) _
  have IF := isFree_any s f c h p m (.slice ua un uc) (w.alloc (pdb ⟨s, f, c, h, p, m, .slice ua un uc, pl⟩))
  have B1 : Below w.heap.size w ((w.alloc (pdb ⟨s, f, c, h, p, m, .slice ua un uc, pl⟩)).alloc (cb s f c h p m (.slice ua un uc))) := B0.alloc (by simp) _
  have HB1 : Hid _ := B1
  clear B0 B1
  cases e : (f == 6)
  · rw [e] at IF
    go_enter Tryz.func122, Tryz.ntmps122
    go_wp2_with (go_at_call 125; refine IF.mono ?_; clear IF; rintro e w3 ⟨rfl, hw3⟩; rw [hw3]; clear hw3 w3)
    go_ret
    exact ⟨rfl, HB1.out⟩
  · rw [e] at IF
    go_enter Tryz.func122, Tryz.ntmps122
    go_wp2_with (go_at_call 125; refine IF.mono ?_; clear IF; rintro e w3 ⟨rfl, hw3⟩; rw [hw3]; clear hw3 w3)
    go_ret
    exact ⟨rfl, HB1.out⟩

set_option maxHeartbeats 8000000 in
theorem indexUp_any {w : World} {v : Value} {ds : List Pd} (h : PdsAt w v ds) (hs : SlicesP ds) (hl : ds.length ≤ 1048576) :
    Calls Tryz.prog 149 #[v, .func (.func 122) #[] #[]] w fun e w' => e = .returned (.int .i64 (idxP upOnly ds)) ∧ Below w.heap.size w w' := by
  have HP : Hid _ := h
  obtain ⟨a, cap, rfl⟩ := pds_slice h
  obtain ⟨_, hlc, hcm⟩ := pds_cap h
  obtain ⟨R, hR⟩ : ∃ R, idxP upOnly ds = R := ⟨_, rfl⟩
  rw [hR]
  have HR : Hid _ := hR
  have HS : Hid _ := hs
  clear hR h hs
  go_enter Tryz.func149, Tryz.ntmps149
  go_wp2_with fail
  go_loopw [8] (fun q wr => ∃ k : Nat, k ≤ ds.length ∧ q = .int .i64 (k : Int) ∧ (∀ m, m < k → upOnly (ds.getD m pdD) = false) ∧ Below w.heap.size w wr) (fun q _ => ds.length - (intOf q).toNat)
  case atStart => exact ⟨0, Nat.zero_le _, rfl, fun m hm => by omega, Below.refl _ _⟩
  case round =>
    obtain ⟨k, hk, rfl, hne, Br⟩ := hrel
    have HNE : Hid _ := hne
    have HB : Hid _ := Br
    clear hne Br
    by_cases hlt : k < ds.length
    · obtain ⟨b, off, ea, hbl, k0, k1, k2, k3, k4, k5, k6, k7⟩ := pds_cell (pdsAt_below HP.out HB.out) hlt
      subst ea
      obtain ⟨ua, un, uc, hu⟩ := HS.out (ds.getD k pdD) (by rw [List.getD_eq_getElem?_getD, List.getElem?_eq_getElem hlt]; exact List.getElem_mem hlt)
      obtain ⟨x, hx⟩ : ∃ x, ds.getD k pdD = x := ⟨_, rfl⟩
      have HF1 : Hid (upOnly x = false → ∀ m, m < k + 1 → upOnly (ds.getD m pdD) = false) := fun e m hm => by
        by_cases e' : m = k
        · rw [e', hx]; exact e
        · exact HNE.out m (by omega)
      have HF2 : Hid (upOnly x = true → R = k) := fun e => HR.out.symm.trans (idxP_at hlt (by rw [hx]; exact e) HNE.out)
      rw [hx] at k0 k1 k2 k3 k4 k5 k6 k7 hu
      clear HNE HR hx
      obtain ⟨s', f', c', h', p', m', u', pl'⟩ := x
      simp only at k0 k1 k2 k3 k4 k5 k6 k7 hu
      subst hu
      have IS := isUp_any (⟨s', f', c', h', p', m', .slice ua un uc, pl'⟩ : Pd) (ua := ua) (un := un) (uc := uc) rfl wr
      obtain ⟨tb, htb⟩ : ∃ tb, upOnly (⟨s', f', c', h', p', m', .slice ua un uc, pl'⟩ : Pd) = tb := ⟨_, rfl⟩
      rw [htb] at IS HF1 HF2
      clear htb
      cases tb with
      | true =>
        have HF3 : Hid _ := HF2.out rfl
        clear HF1 HF2
        go_wp2_with (go_at_call 122; refine IS.mono ?_; clear IS; rintro e w3 ⟨rfl, b3⟩; have HB3 : Hid _ := HB.out.trans (b3.mono HB.out.size); clear b3)
        go_ret
        exact ⟨by rw [HF3.out]; rfl, HB3⟩
      | false =>
        have HF3 : Hid _ := HF1.out rfl
        clear HF1 HF2
        go_wp2_with (go_at_call 122; refine IS.mono ?_; clear IS; rintro e w3 ⟨rfl, b3⟩; have HB3 : Hid _ := HB.out.trans (b3.mono HB.out.size); clear b3)
        exact ⟨⟨k + 1, by omega, by go_num, HF3, HB3⟩, by simp [intOf]; omega⟩
    · have HF3 : Hid (R = -1) := HR.out.symm.trans (idxP_no (fun m hm => HNE.out m (by omega)))
      clear HNE HR
      go_wp2
      go_ret
      exact ⟨by rw [HF3.out]; rfl, HB⟩

theorem containsUp_any {w : World} {v : Value} {ds : List Pd} (h : PdsAt w v ds) (hs : SlicesP ds) (hl : ds.length ≤ 1048576) :
    Calls Tryz.prog 121 #[v, .func (.func 122) #[] #[]] w fun e w' => e = .returned (.bool (ds.any upOnly)) ∧ Below w.heap.size w w' := by
  have IX := indexUp_any h hs hl
  obtain ⟨a, cap, rfl⟩ := pds_slice h
  rw [← idxP_any]
  generalize idxP upOnly ds = R at *
  clear h hs
  go_enter Tryz.func121, Tryz.ntmps121
  go_wp2_with (go_at_call 149; refine IX.mono ?_; clear IX; rintro e w3 ⟨rfl, b3⟩; have HB3 : Hid _ := b3; clear b3)
  go_ret
  exact ⟨rfl, HB3.out⟩

set_option maxHeartbeats 2000000 in
theorem allZero_any {w : World} {v : Value} {xs : List Int} (h : IntsAt w v xs) (hl : xs.length ≤ 1048576) :
    Calls Tryz.prog 123 #[v] w fun e w' => e = .returned (.bool (xs.all (· == 0))) ∧ w' = w := by
  have HI : Hid _ := h
  obtain ⟨a, cap, rfl, hlc, hcm, _, hc⟩ := h
  obtain ⟨R, hR⟩ : ∃ R, xs.all (· == 0) = R := ⟨_, rfl⟩
  rw [hR]
  have HR : Hid _ := hR
  clear hR hc
  go_enter Tryz.func123, Tryz.ntmps123
  go_wp2_with fail
  go_loopw [7] (fun q wr => ∃ k : Nat, k ≤ xs.length ∧ q = .int .i64 (k : Int) ∧ (∀ m, m < k → (xs.getD m 0 == 0) = true) ∧ wr = w) (fun q _ => xs.length - (intOf q).toNat)
  case atStart => exact ⟨0, Nat.zero_le _, rfl, fun m hm => by omega, rfl⟩
  case round =>
    obtain ⟨k, hk, rfl, hall, hw⟩ := hrel
    subst hw
    by_cases hlt : k < xs.length
    · obtain ⟨b, off, ea, _, x0⟩ := ints_cellI HI.out hlt
      subst ea
      obtain ⟨y, hy⟩ : ∃ y, xs.getD k 0 = y := ⟨_, rfl⟩
      rw [hy] at x0
      have HF : Hid ((y == 0) = false → R = false) := fun e => by
        rw [← HR.out, List.all_eq_false]
        refine ⟨y, ?_, by rw [e]; decide⟩
        rw [← hy, List.getD_eq_getElem?_getD, List.getElem?_eq_getElem hlt]; exact List.getElem_mem hlt
      have HV : Hid ((y == 0) = true → ∀ m, m < k + 1 → (xs.getD m 0 == 0) = true) := fun e m hm => by
        by_cases e' : m = k
        · rw [e', hy]; exact e
        · exact hall m (by omega)
      clear hall hy HR
      cases dy : (y == 0)
      · have HF2 : Hid _ := HF.out dy
        have d2 : (y != 0) = true := by simp [bne, dy]
        clear HF HV dy
        go_wp2
        go_ret
        exact ⟨by rw [HF2.out]; rfl, rfl⟩
      · have HV2 : Hid _ := HV.out dy
        have d2 : (y != 0) = false := by simp [bne, dy]
        clear HF HV dy
        go_wp2
        exact ⟨⟨k + 1, by omega, by go_num, HV2, by trivial⟩, by simp [intOf]; omega⟩
    · have HF2 : Hid (R = true) := by
        show R = true
        rw [← HR.out, List.all_eq_true]
        intro x hx
        obtain ⟨i, hi, rfl⟩ := List.getElem_of_mem hx
        have := hall i (by omega)
        rwa [List.getD_eq_getElem?_getD, List.getElem?_eq_getElem hi] at this
      clear hall HR
      go_wp2
      go_ret
      exact ⟨by rw [HF2.out]; rfl, rfl⟩
end Go.Proofs.YtmhbdmmpmagbkaaGreat.hp
namespace Go.Proofs.YtmhbdmmpmagbkaaGreat.hp
open Go.RowKit rows heads words walks
set_option maxRecDepth 100000
set_option linter.unusedVariables false
set_option linter.unusedSimpArgs false

theorem meth_free (s f c h : Int) (p m : Bool) (ua : Option Addr) (un uc : Nat) (pl : Int) (w : World) : (method 290 89 (pdv ⟨s, f, c, h, p, m, .slice ua un uc, pl⟩) "loop.example/g00337/impl.isFree").run Tryz.prog w = .ok (125, cv s f c h p m (.slice ua un uc)) w := rfl
theorem cellsP_set : ∀ (ds : List Pd) (i : Nat) (d : Pd), (((((((((cellsP ds).set (i * 8) (.int .i64 d.s)).set (i * 8 + 1) (.int .i64 d.f)).set (i * 8 + 2) (.int .i64 d.c)).set (i * 8 + 3) (.int .i64 d.h)).set (i * 8 + 4) (.bool d.p)).set (i * 8 + 5) (.bool d.m)).set (i * 8 + 6) d.u).set (i * 8 + 7) (.int .i64 d.pl)) = cellsP (ds.set i d)
  | [], i, d => by simp [cellsP]
  | e :: ds, 0, d => by simp [cellsP]
  | e :: ds, i + 1, d => by
    rw [show (i + 1) * 8 = i * 8 + 1 + 1 + 1 + 1 + 1 + 1 + 1 + 1 by omega]
    simp [cellsP, ← cellsP_set ds i d]
theorem isFreeP_any (d : Pd) {ua : Option Addr} {un uc : Nat} (hu : d.u = .slice ua un uc) (w : World) :
    Calls Tryz.prog 125 #[cv d.s d.f d.c d.h d.p d.m d.u] w fun e w' => e = .returned (.bool (freeP d)) ∧ Below w.heap.size w w' :=
  (isFree_any d.s d.f d.c d.h d.p d.m d.u w).mono fun e w' ⟨he, hw⟩ => ⟨he, by rw [hw]; exact (Below.refl _ _).alloc (Nat.le_refl _) _⟩

set_option maxHeartbeats 8000000 in
theorem indexFree_any {w : World} {v : Value} {ds : List Pd} (h : PdsAt w v ds) (hs : SlicesP ds) (hl : ds.length ≤ 1048576) :
    Calls Tryz.prog 149 #[v, .func (.methodOf 89 "loop.example/g00337/impl.isFree") #[] #[]] w fun e w' => e = .returned (.int .i64 (idxP freeP ds)) ∧ Below w.heap.size w w' := by
  have HP : Hid _ := h
  obtain ⟨a, cap, rfl⟩ := pds_slice h
  obtain ⟨_, hlc, hcm⟩ := pds_cap h
  obtain ⟨R, hR⟩ : ∃ R, idxP freeP ds = R := ⟨_, rfl⟩
  rw [hR]
  have HR : Hid _ := hR
  have HS : Hid _ := hs
  clear hR h hs
  go_enter Tryz.func149, Tryz.ntmps149
  go_wp2_with fail
  go_loopw [8] (fun q wr => ∃ k : Nat, k ≤ ds.length ∧ q = .int .i64 (k : Int) ∧ (∀ m, m < k → freeP (ds.getD m pdD) = false) ∧ Below w.heap.size w wr) (fun q _ => ds.length - (intOf q).toNat)
  case atStart => exact ⟨0, Nat.zero_le _, rfl, fun m hm => by omega, Below.refl _ _⟩
  case round =>
    obtain ⟨k, hk, rfl, hne, Br⟩ := hrel
    have HNE : Hid _ := hne
    have HB : Hid _ := Br
    clear hne Br
    by_cases hlt : k < ds.length
    · obtain ⟨b, off, ea, hbl, k0, k1, k2, k3, k4, k5, k6, k7⟩ := pds_cell (pdsAt_below HP.out HB.out) hlt
      subst ea
      obtain ⟨ua, un, uc, hu⟩ := HS.out (ds.getD k pdD) (by rw [List.getD_eq_getElem?_getD, List.getElem?_eq_getElem hlt]; exact List.getElem_mem hlt)
      obtain ⟨x, hx⟩ : ∃ x, ds.getD k pdD = x := ⟨_, rfl⟩
      have HF1 : Hid (freeP x = false → ∀ m, m < k + 1 → freeP (ds.getD m pdD) = false) := fun e m hm => by
        by_cases e' : m = k
        · rw [e', hx]; exact e
        · exact HNE.out m (by omega)
      have HF2 : Hid (freeP x = true → R = k) := fun e => HR.out.symm.trans (idxP_at hlt (by rw [hx]; exact e) HNE.out)
      rw [hx] at k0 k1 k2 k3 k4 k5 k6 k7 hu
      clear HNE HR hx
      obtain ⟨s', f', c', h', p', m', u', pl'⟩ := x
      simp only at k0 k1 k2 k3 k4 k5 k6 k7 hu
      subst hu
      have IS := isFreeP_any (⟨s', f', c', h', p', m', .slice ua un uc, pl'⟩ : Pd) (ua := ua) (un := un) (uc := uc) rfl wr
      have MF := meth_free s' f' c' h' p' m' ua un uc pl' wr
      obtain ⟨tb, htb⟩ : ∃ tb, freeP (⟨s', f', c', h', p', m', .slice ua un uc, pl'⟩ : Pd) = tb := ⟨_, rfl⟩
      rw [htb] at IS HF1 HF2
      clear htb
      cases tb with
      | true =>
        have HF3 : Hid _ := HF2.out rfl
        clear HF1 HF2
        go_wp2_with (go_at_call 125; refine IS.mono ?_; clear IS; rintro e w3 ⟨rfl, b3⟩; have HB3 : Hid _ := HB.out.trans (b3.mono HB.out.size); clear b3)
        go_ret
        exact ⟨by rw [HF3.out]; rfl, HB3⟩
      | false =>
        have HF3 : Hid _ := HF1.out rfl
        clear HF1 HF2
        go_wp2_with (go_at_call 125; refine IS.mono ?_; clear IS; rintro e w3 ⟨rfl, b3⟩; have HB3 : Hid _ := HB.out.trans (b3.mono HB.out.size); clear b3)
        exact ⟨⟨k + 1, by omega, by go_num, HF3, HB3⟩, by simp [intOf]; omega⟩
    · have HF3 : Hid (R = -1) := HR.out.symm.trans (idxP_no (fun m hm => HNE.out m (by omega)))
      clear HNE HR
      go_wp2
      go_ret
      exact ⟨by rw [HF3.out]; rfl, HB⟩
end Go.Proofs.YtmhbdmmpmagbkaaGreat.hp
namespace Go.Proofs.YtmhbdmmpmagbkaaGreat.hp
open Go.RowKit rows heads words walks
set_option maxRecDepth 100000
set_option linter.unusedVariables false
set_option linter.unusedSimpArgs false

theorem zeroPd : ∀ w, (zeroValue 89).run Tryz.prog w = .ok (pdv pdD) w := fun w => by go_simp
/-- 'clear' on the last chunks of a row. -/
theorem wpList_clearP {w : World} {ops : Array Oper} {rest : List Oper} {o : Oper} {act : Act} {Q : Exit → Act → World → Prop} {base g k n cap c : Nat} {ds : List Pd}
    (hgd : o.guard = none) (s : Operand) (ho : o.op = .call { callee := .builtin .clear, args := #[s], argTypes := #[46] })
    (hs : act.eval s = .slice (some ⟨g, k * 8, none⟩) n c) (hown : w.ownsRow base 89 8 (.slice (some ⟨g, 0, none⟩) k cap) k (cellsP ds)) (hkn : k + n ≤ cap)
    (hK : ∀ w', w'.ownsRow base 89 8 (.slice (some ⟨g, 0, none⟩) k cap) k (cellsP ds) → Ch [g] w w' → wpList Tryz.prog ops Q rest (act.put o.dst (.tuple #[])) w') :
    wpList Tryz.prog ops Q (o :: rest) act w := by
  obtain ⟨h0, ⟨h1, _⟩ | ⟨g', cap', cur, h1, hg, hh, hle, hm, hsz, ht⟩⟩ := hown
  · cases h1
  injection h1 with e1 e2 e3
  injection e1 with e1
  injection e1 with e1
  subst e1 e3
  refine wpList_plain hgd fun K hK' => ?_
  obtain ⟨w', hrun, r1, r2, r3⟩ := copyk.run_clear_k (P := Tryz.prog) w 46 89 o.type (pdv pdD) 8 Tryz.underlying46 zeroPd (some ⟨g, k * 8, none⟩) n c g (k * 8) cur.toList 89 (by simpa using hh) (fun _ => rfl) (by simp [Builtin.zeroCells, Value.cells]) (by
    intro v hv
    simp only [Builtin.zeroCells, Value.cells] at hv
    simp at hv
    obtain ⟨j, hj, rfl⟩ := hv
    have : j % 8 < 8 := Nat.mod_lt _ (by decide)
    rcases (show j % 8 = 0 ∨ j % 8 = 1 ∨ j % 8 = 2 ∨ j % 8 = 3 ∨ j % 8 = 4 ∨ j % 8 = 5 ∨ j % 8 = 6 ∨ j % 8 = 7 by omega) with h | h | h | h | h | h | h | h <;> rw [h] <;> rfl) (by simp [hsz]; omega)
  unfold Oper.wp
  simp [execOp, ho, resolve, invoke, builtin, hs, hrun, Result.andThen]
  have b0 := r3 (Below.refl 0 w) (Nat.zero_le _)
  refine hK' _ _ (hK w' ⟨h0, .inr ⟨g, cap, _, rfl, hg, r1, hle, hm, ?_, ?_⟩⟩ ⟨b0.os, b0.tape, b0.output, b0.size, fun j _ hj => r2 j (fun e => hj (by rw [e]; simp))⟩)
  · split
    · simpa using hsz
    · rw [List.size_toArray, length_splice _ _ _ (by simp [Builtin.zeroCells, Value.cells, hsz]; omega)]
      simpa using hsz
  · split
    · simpa using ht
    · rw [← ht]
      simp only [splice]
      exact List.take_left' (by simp [hsz]; omega)
/-- The first so many of an own row. -/
theorem ownP_take {W : World} {base g n cap k : Nat} {ds : List Pd} (h : OwnP W base (.slice (some ⟨g, 0, none⟩) n cap) ds) (hn : n = ds.length) (hk : k ≤ ds.length) : W.ownsRow base 89 8 (.slice (some ⟨g, 0, none⟩) k cap) k (cellsP (ds.take k)) := by
  obtain ⟨h0, ⟨h1, _⟩ | ⟨g', cap', cur, h1, hg, hh, hle, hm, hsz, ht⟩⟩ := h
  · cases h1
  injection h1 with e1 e2 e3
  injection e1 with e1
  injection e1 with e1
  subst e1 e3
  have e : cellsP (ds.take k) = (cellsP ds).take (k * 8) := by
    have : cellsP ds = cellsP (ds.take k) ++ cellsP (ds.drop k) := by rw [← cellsP_append, List.take_append_drop]
    rw [this, List.take_left' (by rw [cellsP_length, List.length_take]; congr 1; omega)]
  refine ⟨by rw [cellsP_length, List.length_take]; congr 1; omega, .inr ⟨g, cap, cur, rfl, hg, hh, by omega, hm, hsz, ?_⟩⟩
  rw [e, ← ht, List.take_take]
  congr 1
  omega
/-- What is not free. -/
def keepP (ds : List Pd) : List Pd := ds.filter (fun d => !freeP d)
theorem keepP_all {ds : List Pd} (h : ∀ m, m < ds.length → freeP (ds.getD m pdD) = false) : keepP ds = ds := by
  unfold keepP
  rw [List.filter_eq_self]
  intro d hd
  obtain ⟨i, hi, rfl⟩ := List.getElem_of_mem hd
  have := h i hi
  rw [List.getD_eq_getElem?_getD, List.getElem?_eq_getElem hi] at this
  simpa using this
theorem keepP_next {ds : List Pd} {j : Nat} (hj : j < ds.length) : keepP (ds.take (j + 1)) = keepP (ds.take j) ++ (if freeP (ds.getD j pdD) = true then [] else [ds.getD j pdD]) := by
  unfold keepP
  rw [List.take_add_one, List.filter_append, List.getElem?_eq_getElem hj, List.getD_eq_getElem?_getD, List.getElem?_eq_getElem hj]
  simp only [Option.toList_some, Option.getD_some]
  congr 1
  cases h : freeP ds[j] <;> simp [h]
/-- Half way through: i are kept of the first j. -/
structure Del (ds E : List Pd) (i j : Nat) : Prop where
  len : E.length = ds.length
  lt : i < j
  le : j ≤ ds.length
  kept : E.take i = keepP (ds.take j)
  rest : E.drop j = ds.drop j
  sl : SlicesP E
theorem Del.at_j {ds E : List Pd} {i j : Nat} (h : Del ds E i j) (hj : j < ds.length) : E.getD j pdD = ds.getD j pdD := by
  have := congrArg (fun l => l[0]?) h.rest
  simp only [List.getElem?_drop, Nat.add_zero] at this
  rw [List.getD_eq_getElem?_getD, List.getD_eq_getElem?_getD, this]
theorem Del.skip {ds E : List Pd} {i j : Nat} (h : Del ds E i j) (hj : j < ds.length) (hf : freeP (ds.getD j pdD) = true) : Del ds E i (j + 1) := by
  refine ⟨h.len, by have := h.lt; omega, by omega, ?_, ?_, h.sl⟩
  · rw [keepP_next hj, if_pos hf, List.append_nil]; exact h.kept
  · have := congrArg (List.drop 1) h.rest
    simpa [List.drop_drop, Nat.add_comm] using this
theorem Del.take1 {ds E : List Pd} {i j : Nat} (h : Del ds E i j) (hj : j < ds.length) (hf : freeP (ds.getD j pdD) = false) (hs : ∃ a n c, (ds.getD j pdD).u = .slice a n c) : Del ds (E.set i (ds.getD j pdD)) (i + 1) (j + 1) := by
  have hl := h.len
  have hi := h.lt
  refine ⟨by simpa using hl, by omega, by omega, ?_, ?_, ?_⟩
  · rw [keepP_next hj, if_neg (by rw [hf]; decide), ← h.kept]
    apply List.ext_getElem?
    intro q
    simp only [List.getElem?_take, List.getElem?_set, List.getElem?_append, List.length_take]
    grind
  · have := congrArg (List.drop 1) h.rest
    rw [List.drop_drop, List.drop_drop] at this
    rw [List.drop_set_of_lt (by omega)]
    exact this
  · intro d hd
    rcases List.mem_or_eq_of_mem_set hd with hd | rfl
    · exact h.sl d hd
    · exact hs

set_option maxHeartbeats 16000000 in
theorem deleteFree_any {w : World} {base : Nat} {v : Value} {ds : List Pd} (h : OwnP w base v ds) (hs : SlicesP ds) (hl : ds.length ≤ 1000) (hb : base ≤ w.heap.size) :
    Calls Tryz.prog 124 #[v, .func (.methodOf 89 "loop.example/g00337/impl.isFree") #[] #[]] w fun e w' => ∃ v', e = .returned v' ∧ OwnP w' base v' (keepP ds) ∧ (∀ b, v'.ownBlock = some b → v.ownBlock = some b) ∧ Ch (blk v) w w' := by
  have IX := indexFree_any (ownP_at h) hs (by omega)
  obtain ⟨R, hR⟩ : ∃ R, keepP ds = R := ⟨_, rfl⟩
  rw [hR]
  have HR : Hid _ := hR
  have HO : Hid _ := h
  have HS : Hid _ := hs
  by_cases hf : ∀ m, m < ds.length → freeP (ds.getD m pdD) = false
  · rw [idxP_no hf] at IX
    have HF : Hid (R = ds) := by show R = ds; rw [← hR]; exact keepP_all hf
    obtain ⟨a, cap, rfl⟩ := pds_slice (ownP_at h)
    clear hf hR h hs
    go_enter Tryz.func124, Tryz.ntmps124
    go_wp2_with (go_at_call 149; refine IX.mono ?_; clear IX; rintro e w3 ⟨rfl, b3⟩; have HB3 : Hid _ := b3; clear b3)
    go_ret
    rw [HF.out]
    exact ⟨_, rfl, ownP_below HO.out HB3.out, fun b e => e, ch_below HB3.out⟩
  · obtain ⟨i0, hi0, hfi, hmin⟩ : ∃ i0, i0 < ds.length ∧ freeP (ds.getD i0 pdD) = true ∧ ∀ m, m < i0 → freeP (ds.getD m pdD) = false := by
      cases e : ds.findIdx? freeP with
      | none =>
        rw [List.findIdx?_eq_none_iff] at e
        exact absurd (fun m hm => by
          rw [List.getD_eq_getElem?_getD, List.getElem?_eq_getElem hm]
          simpa using e _ (List.getElem_mem hm)) hf
      | some i0 =>
        rw [List.findIdx?_eq_some_iff_getElem] at e
        obtain ⟨h1, h2, h3⟩ := e
        refine ⟨i0, h1, by rw [List.getD_eq_getElem?_getD, List.getElem?_eq_getElem h1]; exact h2, fun m hm => ?_⟩
        rw [List.getD_eq_getElem?_getD, List.getElem?_eq_getElem (by omega)]
        simpa using h3 m hm
    rw [idxP_at hi0 hfi hmin] at IX
    have D0 : Del ds ds i0 (i0 + 1) := by
      refine ⟨rfl, by omega, by omega, ?_, rfl, hs⟩
      rw [keepP_next hi0, if_pos hfi, List.append_nil]
      refine (keepP_all fun m hm => ?_).symm
      rw [List.length_take] at hm
      have := hmin m (by omega)
      rwa [List.getD_eq_getElem?_getD, List.getElem?_take, if_pos (by omega), ← List.getD_eq_getElem?_getD]
    obtain ⟨a, cap, rfl⟩ := pds_slice (ownP_at h)
    obtain ⟨g, rfl⟩ : ∃ g, a = some ⟨g, 0, none⟩ := by
      obtain ⟨_, ⟨h1, h2⟩ | ⟨g, cap', cur, h1, _⟩⟩ := h
      · simp at h1; omega
      · injection h1 with h1; exact ⟨g, h1⟩
    obtain ⟨_, hcl, hcm⟩ := pds_cap (ownP_at h)
    have HD0 : Hid _ := D0
    have hgl : base ≤ g ∧ g < w.heap.size := blk_lt h g (by simp [blk, Value.ownBlock])
    clear hf hR h hs hmin hfi D0
    go_enter Tryz.func124, Tryz.ntmps124
    go_wp2_with fail
    refine IX.mono ?_
    clear IX
    rintro e w1 ⟨rfl, b1⟩
    have HO1 : Hid _ := ownP_below HO.out b1
    have HC1 : Hid (Ch [g] w w1) := ch_below b1
    have s1 := b1.size
    have hm1 : ((i0 : Int) == -1) = false := by rw [beq_eq_false_iff_ne]; omega
    clear b1 HO
    go_wp2_with fail
    go_loopw [5, 6, 7] (fun p q _ wr => ∃ (i j : Nat) (E : List Pd), p = .int .i64 (i : Int) ∧ q = .int .i64 (j : Int) ∧ Del ds E i j ∧ OwnP wr base (.slice (some ⟨g, 0, none⟩) ds.length cap) E ∧ Ch [g] w wr) (fun _ q _ _ => ds.length - (intOf q).toNat)
    case atStart => exact ⟨i0, i0 + 1, ds, rfl, by simp, HD0.out, HO1.out, HC1.out⟩
    case round =>
      obtain ⟨i, j, E, rfl, rfl, hD, hO, hC⟩ := hrel
      clear HO1 HC1 HD0
      have hij := hD.lt
      have hjl := hD.le
      have hEl := hD.len
      have HD : Hid _ := hD
      have HC : Hid _ := hC
      have HOE : Hid _ := hO
      by_cases hlt : j < ds.length
      · have hlt' : (j : Int) < (ds.length : Int) := by omega
        obtain ⟨b', off', ea, _, k0, k1, k2, k3, k4, k5, k6, k7⟩ := pds_cell (ownP_at hO) (i := j) (by omega)
        have e1 : b' = g := by injection ea with e; injection e with e1 e2; exact e1.symm
        have e2 : off' = 0 := by injection ea with e; injection e with e1 e2; exact e2.symm
        subst e1 e2
        rw [hD.at_j hlt] at k0 k1 k2 k3 k4 k5 k6 k7
        obtain ⟨ua, un, uc, hu⟩ := HS.out (ds.getD j pdD) (by rw [List.getD_eq_getElem?_getD, List.getElem?_eq_getElem hlt]; exact List.getElem_mem hlt)
        have HSK : Hid (freeP (ds.getD j pdD) = true → Del ds E i (j + 1)) := fun e => hD.skip hlt e
        have HTK : Hid (freeP (ds.getD j pdD) = false → Del ds (E.set i (ds.getD j pdD)) (i + 1) (j + 1)) := fun e => hD.take1 hlt e ⟨ua, un, uc, hu⟩
        obtain ⟨x, hx⟩ : ∃ x, ds.getD j pdD = x := ⟨_, rfl⟩
        rw [hx] at k0 k1 k2 k3 k4 k5 k6 k7 hu HSK HTK
        obtain ⟨s', f', c', h', p', m', u', pl'⟩ := x
        simp only at k0 k1 k2 k3 k4 k5 k6 k7 hu
        subst hu
        simp only [Nat.zero_add] at k0 k1 k2 k3 k4 k5 k6 k7
        obtain ⟨X, hX⟩ : ∃ X, X = wr.alloc (pdb (⟨s', f', c', h', p', m', .slice ua un uc, pl'⟩ : Pd)) := ⟨_, rfl⟩
        have BX : Below wr.heap.size wr X := by rw [hX]; exact (Below.refl _ _).alloc (Nat.le_refl _) _
        have TX : X.heap[wr.heap.size]? = some (pdb (⟨s', f', c', h', p', m', .slice ua un uc, pl'⟩ : Pd)) := by rw [hX]; exact heap_alloc_new wr _
        have IS := isFreeP_any (⟨s', f', c', h', p', m', .slice ua un uc, pl'⟩ : Pd) (ua := ua) (un := un) (uc := uc) rfl X
        have MF := meth_free s' f' c' h' p' m' ua un uc pl' X
        obtain ⟨tb, htb⟩ : ∃ tb, freeP (⟨s', f', c', h', p', m', .slice ua un uc, pl'⟩ : Pd) = tb := ⟨_, rfl⟩
        rw [htb] at IS HSK HTK
        have cX : X.cell? ⟨wr.heap.size, 0, none⟩ = some (.int .i64 s') ∧ X.cell? ⟨wr.heap.size, 1, none⟩ = some (.int .i64 f') ∧ X.cell? ⟨wr.heap.size, 2, none⟩ = some (.int .i64 c') ∧ X.cell? ⟨wr.heap.size, 3, none⟩ = some (.int .i64 h') ∧ X.cell? ⟨wr.heap.size, 4, none⟩ = some (.bool p') ∧ X.cell? ⟨wr.heap.size, 5, none⟩ = some (.bool m') ∧ X.cell? ⟨wr.heap.size, 6, none⟩ = some (.slice ua un uc) ∧ X.cell? ⟨wr.heap.size, 7, none⟩ = some (.int .i64 pl') := by
          unfold World.cell?
          rw [TX]
          exact ⟨rfl, rfl, rfl, rfl, rfl, rfl, rfl, rfl⟩
        obtain ⟨q0, q1, q2, q3, q4, q5, q6, q7⟩ := cX
        have HX : Hid _ := hX
        have HBX : Hid _ := BX
        have HTX : Hid _ := TX
        have szr : wr.heap.size < X.heap.size := lt_of_block TX
        clear htb hx hD hO hC hX BX TX
        cases tb with
        | true =>
          have HV : Hid _ := HSK.out rfl
          clear HSK HTK
          go_upto_region 8 with fail
          rw [← HX.out]
          go_wp2_with (go_at_call 125; refine IS.mono ?_; clear IS; rintro e w3 ⟨rfl, b3⟩; have HB3 : Hid (Below wr.heap.size wr w3) := HBX.out.trans (b3.mono (Nat.le_of_lt szr)); clear b3)
          exact ⟨⟨i, j + 1, E, rfl, by go_num, HV.out, ownP_below HOE.out HB3.out, HC.out.trans (ch_below HB3.out)⟩, by simp [intOf]; omega⟩
        | false =>
          have HV : Hid _ := HTK.out rfl
          clear HSK HTK
          go_upto_region 8 with fail
          rw [← HX.out]
          go_wp2_with fail
          refine IS.mono ?_
          clear IS
          rintro e w3 ⟨rfl, b3⟩
          have B3 : Below wr.heap.size wr w3 := HBX.out.trans (b3.mono (Nat.le_of_lt szr))
          have O3 := ownP_below HOE.out B3
          have T3 := (b3.block wr.heap.size szr).trans HTX.out
          have cX : w3.cell? ⟨wr.heap.size, 0, none⟩ = some (.int .i64 s') ∧ w3.cell? ⟨wr.heap.size, 1, none⟩ = some (.int .i64 f') ∧ w3.cell? ⟨wr.heap.size, 2, none⟩ = some (.int .i64 c') ∧ w3.cell? ⟨wr.heap.size, 3, none⟩ = some (.int .i64 h') ∧ w3.cell? ⟨wr.heap.size, 4, none⟩ = some (.bool p') ∧ w3.cell? ⟨wr.heap.size, 5, none⟩ = some (.bool m') ∧ w3.cell? ⟨wr.heap.size, 6, none⟩ = some (.slice ua un uc) ∧ w3.cell? ⟨wr.heap.size, 7, none⟩ = some (.int .i64 pl') := by
            unfold World.cell?
            rw [T3]
            exact ⟨rfl, rfl, rfl, rfl, rfl, rfl, rfl, rfl⟩
          clear q0 q1 q2 q3 q4 q5 q6 q7
          obtain ⟨q0, q1, q2, q3, q4, q5, q6, q7⟩ := cX
          obtain ⟨b4, o4, ea4, _, y0, y1, y2, y3, y4, y5, y6, y7⟩ := pds_cell (ownP_at O3) (i := i) (by omega)
          have e1 : b4 = b' := by injection ea4 with e; injection e with e1 e2; exact e1.symm
          have e2 : o4 = 0 := by injection ea4 with e; injection e with e1 e2; exact e2.symm
          subst e1 e2
          simp only [Nat.zero_add] at y0 y1 y2 y3 y4 y5 y6 y7
          generalize E.getD i pdD = old at y0 y1 y2 y3 y4 y5 y6 y7
          have O3' : w3.ownsRow base 89 8 (.slice (some ⟨b4, 0, none⟩) ds.length cap) ds.length (cellsP E) := by
            have := O3
            unfold OwnP at this
            rwa [hEl] at this
          have fr : ∀ q, w3.frozen? ⟨b4, q, none⟩ = false := fun q => World.ownsRow.frozenAt O3' q
          have f0 := fr (i * 8)
          have f1 := fr (i * 8 + 1)
          have f2 := fr (i * 8 + 2)
          have f3 := fr (i * 8 + 3)
          have f4 := fr (i * 8 + 4)
          have f5 := fr (i * 8 + 5)
          have f6 := fr (i * 8 + 6)
          have f7 := fr (i * 8 + 7)
          have hne : ¬ wr.heap.size = b4 := by have := HC.out.size; omega
          have HOS : Hid (OwnP ((((((((w3.setCell ⟨b4, i * 8, none⟩ (.int .i64 s')).setCell ⟨b4, i * 8 + 1, none⟩ (.int .i64 f')).setCell ⟨b4, i * 8 + 2, none⟩ (.int .i64 c')).setCell ⟨b4, i * 8 + 3, none⟩ (.int .i64 h')).setCell ⟨b4, i * 8 + 4, none⟩ (.bool p')).setCell ⟨b4, i * 8 + 5, none⟩ (.bool m')).setCell ⟨b4, i * 8 + 6, none⟩ (.slice ua un uc)).setCell ⟨b4, i * 8 + 7, none⟩ (.int .i64 pl')) base (.slice (some ⟨b4, 0, none⟩) ds.length cap) (E.set i (⟨s', f', c', h', p', m', .slice ua un uc, pl'⟩ : Pd))) := by
            show World.ownsRow _ _ _ _ _ _ _
            rw [← cellsP_set, List.length_set, hEl]
            exact (World.ownsRow.stored (World.ownsRow.stored (World.ownsRow.stored (World.ownsRow.stored (World.ownsRow.stored (World.ownsRow.stored (World.ownsRow.stored (World.ownsRow.stored O3' _ _).1 _ _).1 _ _).1 _ _).1 _ _).1 _ _).1 _ _).1 _ _).1
          have HCS : Hid (Ch [b4] w ((((((((w3.setCell ⟨b4, i * 8, none⟩ (.int .i64 s')).setCell ⟨b4, i * 8 + 1, none⟩ (.int .i64 f')).setCell ⟨b4, i * 8 + 2, none⟩ (.int .i64 c')).setCell ⟨b4, i * 8 + 3, none⟩ (.int .i64 h')).setCell ⟨b4, i * 8 + 4, none⟩ (.bool p')).setCell ⟨b4, i * 8 + 5, none⟩ (.bool m')).setCell ⟨b4, i * 8 + 6, none⟩ (.slice ua un uc)).setCell ⟨b4, i * 8 + 7, none⟩ (.int .i64 pl'))) := HC.out.trans ((ch_below B3).trans ((((((((one_ch _ _ _ _).trans (one_ch _ _ _ _)).trans (one_ch _ _ _ _)).trans (one_ch _ _ _ _)).trans (one_ch _ _ _ _)).trans (one_ch _ _ _ _)).trans (one_ch _ _ _ _)).trans (one_ch _ _ _ _)))
          have hilt : (i : Int) < (ds.length : Int) := by omega
          clear fr O3 O3' T3 b3 B3 HOE HTX HBX k0 k1 k2 k3 k4 k5 k6 k7
          go_wp2
          exact ⟨⟨i + 1, j + 1, _, by go_num, by go_num, HV.out, HOS.out, HCS.out⟩, by simp [intOf]; omega⟩
      · have hlt' : ¬ (j : Int) < (ds.length : Int) := by omega
        have ej : j = ds.length := by omega
        have hkeep : E.take i = R := by rw [hD.kept, ← HR.out, ej, List.take_of_length_le (Nat.le_refl _)]
        have OT := ownP_take (k := i) hO hEl.symm (by omega)
        rw [hkeep] at OT
        have HRl : Hid (R.length = i) := by show R.length = i; rw [← hkeep, List.length_take]; omega
        have HOT : Hid _ := OT
        have hci : ¬ cap = i := by omega
        have hin : (i : Int) ≤ (ds.length : Int) := by omega
        have hic : (i : Int) ≤ (cap : Int) := by omega
        clear hD hO hC HOE OT hkeep ej HD
        go_wp2_with (refine wpList_clearP rfl (.tmp 38) rfl (g := g) (k := i) (n := ds.length - i) (c := cap - i) (by first | rfl | (simp [go_sem]; done)) HOT.out (by omega) ?_; intro w5 h5 c5; have HO5 : Hid _ := h5; have HC5 : Hid (Ch [g] w w5) := HC.out.trans c5; clear h5 c5)
        go_ret
        refine ⟨_, rfl, ?_, fun b e => e, HC5.out⟩
        unfold OwnP
        rw [HRl.out]
        exact HO5.out
end Go.Proofs.YtmhbdmmpmagbkaaGreat.hp
