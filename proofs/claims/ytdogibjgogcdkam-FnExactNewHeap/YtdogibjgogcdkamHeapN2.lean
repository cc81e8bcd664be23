/-
  Chapter 9: a new heap, where its numbers are right; by the specification.
  Made from the template HeapN2.
-/
import Derived.Test.YtdogibjgogcdkamHeapN
import Derived.Lib.Hide
import Derived.Maps.AppendAt
namespace Go.Proofs.Ytdogibjgogcdkam.hp
open Go.RowKit rows heads words walks
set_option maxRecDepth 100000
set_option linter.unusedVariables false
set_option linter.unusedSimpArgs false

/-- The new heap, where its numbers are right. -/
def hMade (X Y : Nat) (z : Int) : Hp := ⟨X, Y, freeR (List.replicate (2 * X + Y) 0) (2 * X) Y, 0, 0, List.replicate 6 2, [], [], z⟩
/-- The heap that is made, between two roots: its block, its rows, the block of the answer. -/
def NewAt (n0 : Nat) (w wr : World) (q P L X Y : Nat) (z : Int) (v : Value) (k : Nat) (row : List Int) : Prop :=
  Nine wr P 37 (.int .i64 (X : Int)) (.int .i64 (Y : Int)) (.slice (some ⟨q, 0, none⟩) L L) (.int .i64 0) (.int .i64 0) v (.slice none 0 0) (.slice none 0 0) (.int .i64 z) ∧ Own wr (P + 1) v (List.replicate k 2) ∧ Full wr q row ∧ Nine wr n0 37 (.int .i64 0) (.int .i64 0) (.slice none 0 0) (.int .i64 0) (.int .i64 0) (.slice none 0 0) (.slice none 0 0) (.slice none 0 0) (.int .i64 0) ∧ Below n0 w wr ∧ P + 1 ≤ wr.heap.size
theorem newAt_ch {S : List Nat} {n0 : Nat} {w wr wz : World} {q P L X Y : Nat} {z : Int} {v : Value} {k : Nat} {row : List Int} (h : NewAt n0 w wr q P L X Y z v k row) (hc : Ch S wr wz) (h1 : P ∉ S) (h2 : ∀ b ∈ blk v, b ∉ S) (h3 : q ∉ S) (h4 : n0 ∉ S) (h5 : ∀ b ∈ S, n0 ≤ b) (hn : n0 ≤ wr.heap.size) : NewAt n0 w wz q P L X Y z v k row :=
  ⟨nine_ch h.1 hc h1, row_ch h.2.1 hc h2, full_ch h.2.2.1 hc h3, nine_ch h.2.2.2.1 hc h4, h.2.2.2.2.1.trans (below_ch hc hn h5), Nat.le_trans h.2.2.2.2.2 hc.size⟩
/-- One root more. -/
theorem newAt_app {n0 : Nat} {w wr w' : World} {q P L X Y : Nat} {z : Int} {v v' : Value} {k : Nat} {row : List Int} (h : NewAt n0 w wr q P L X Y z v k row) (h0 : n0 < q) (h1 : q < P)
    (ho : w'.ownsRow (P + 1) 2 1 v' (k + 1) (cellsOf (List.replicate k 2) ++ [.int .i64 2])) (hg : (wr.alloc (.cells #[.int .i64 2] 2)).grownBy w' v.ownBlock) :
    w'.cell? ⟨P, 5, none⟩ = some v ∧ w'.frozen? ⟨P, 5, none⟩ = false ∧ NewAt n0 w (w'.setCell ⟨P, 5, none⟩ v') q P L X Y z v' (k + 1) row := by
  have C0 : Ch (blk v) wr (wr.alloc (.cells #[.int .i64 2] 2)) := ch_below ((Below.refl _ _).alloc (Nat.le_refl _) _)
  have C1 := C0.trans (ch_grown hg)
  have lt := blk_lt h.2.1
  have hb : ∀ b, b ≤ P → b ∉ blk v := fun b hb e => by have := (lt b e).1; omega
  have T1 := nine_ch h.1 C1 (hb P (Nat.le_refl _))
  have F1 := full_ch h.2.2.1 C1 (hb q (by omega))
  have Z1 := nine_ch h.2.2.2.1 C1 (hb n0 (by omega))
  have hn : n0 ≤ wr.heap.size := by have := h.2.2.2.2.2; omega
  have B1 := h.2.2.2.2.1.trans (below_ch C1 hn (fun b e => by have := (lt b e).1; omega))
  obtain ⟨⟨_, _, _, _, _⟩, ⟨k5, _, _, _⟩, kf⟩ := nine_cells T1
  have C2 := one_ch w' P 5 v'
  have e : cellsOf (List.replicate k 2) ++ [.int .i64 2] = cellsOf (List.replicate (k + 1) 2) := by simp [cellsOf, List.replicate_succ']
  rw [e] at ho
  have lt' := blk_lt ho
  refine ⟨k5, kf 5, nine_set5 T1 v', ?_, full_ch F1 C2 (by simp; omega), nine_ch Z1 C2 (by simp; omega), B1.setCell (p := ⟨P, 5, none⟩) (show n0 ≤ P by omega) _, ?_⟩
  · have O := row_ch ho C2 (fun b hb e => by have := (lt' b hb).1; simp at e; omega)
    exact own_row O (by simp)
  · have := C1.size
    have := h.2.2.2.2.2
    simp
    omega
/-- The answer. -/
theorem newAt_end {n0 : Nat} {w wr : World} {q P L X Y : Nat} {z : Int} {v : Value} (h : NewAt n0 w wr q P L X Y z v 6 (freeR (List.replicate L 0) (2 * X) Y)) (h0 : n0 < q) (h1 : q < P) (hL : 2 * X + Y = L) (hm : L ≤ 1048576) (hY : 2 ≤ Y) :
    ∃ Wz, Wz = (((((((((wr.setCell ⟨n0, 0, none⟩ (.int .i64 (X : Int))).setCell ⟨n0, 1, none⟩ (.int .i64 (Y : Int))).setCell ⟨n0, 2, none⟩ (.slice (some ⟨q, 0, none⟩) L L)).setCell ⟨n0, 3, none⟩ (.int .i64 0)).setCell ⟨n0, 4, none⟩ (.int .i64 0)).setCell ⟨n0, 5, none⟩ v).setCell ⟨n0, 6, none⟩ (.slice none 0 0)).setCell ⟨n0, 7, none⟩ (.slice none 0 0)).setCell ⟨n0, 8, none⟩ (.int .i64 z)) ∧ Nine Wz n0 37 (.int .i64 (X : Int)) (.int .i64 (Y : Int)) (.slice (some ⟨q, 0, none⟩) L L) (.int .i64 0) (.int .i64 0) v (.slice none 0 0) (.slice none 0 0) (.int .i64 z) ∧ OwnH Wz n0 (.slice (some ⟨q, 0, none⟩) L L) v (.slice none 0 0) (.slice none 0 0) (hMade X Y z) ∧ Below n0 w Wz := by
  obtain ⟨h1', h2', h3', h4', h5', h6'⟩ := h
  have C := nine_other (X := wr) (b := n0) (.int .i64 (X : Int)) (.int .i64 (Y : Int)) (.slice (some ⟨q, 0, none⟩) L L) (.int .i64 0) (.int .i64 0) v (.slice none 0 0) (.slice none 0 0) (.int .i64 z)
  have lt := blk_lt h2'
  have O2 := row_ch h2' C (fun b hb e => by have := (lt b hb).1; simp at e; omega)
  have F2 := full_ch h3' C (by simp; omega)
  have hfl : (freeR (List.replicate L (0 : Int)) (2 * X) Y).length = L := by rw [freeR_length (by simp; omega) hY]; simp
  refine ⟨_, rfl, nine_sets h4' _ _ _ _ _ _ _ _ _, ⟨⟨?_, ?_, World.ownsRow_nil _ _ _ _, World.ownsRow_nil _ _ _ _⟩, ?_⟩, nine_belows h5' (Nat.le_refl _) _ _ _ _ _ _ _ _ _⟩
  · show Own _ n0 _ (freeR (List.replicate (2 * X + Y) 0) (2 * X) Y)
    rw [hL]
    have := full_own (base := n0) F2 (by omega) (by unfold maxLen; omega)
    rwa [hfl] at this
  · exact own_base O2 (by omega)
  · have e : hblk (.slice (some ⟨q, 0, none⟩) L L) v (.slice none 0 0) (.slice none 0 0) = [q] ++ blk v := by simp [hblk, blk, Value.ownBlock]
    rw [e, List.nodup_append]
    refine ⟨by simp, ?_, fun a ha b hb => ?_⟩
    · unfold blk; cases v.ownBlock <;> simp
    · rw [List.mem_singleton] at ha; have := (lt b hb).1; omega

set_option maxHeartbeats 8000000 in
theorem sNewHeap_yes (X Y : Nat) (z : Int) (w : World) (hX : 8 ≤ X ∧ X ≤ 200 ∧ X % 2 = 0) (hY : 8 ≤ Y ∧ Y ≤ 400 ∧ Y % 2 = 0) (hz : inR 0 65535 z = true) :
    Calls Try.prog 26 #[.int .i64 (X : Int), .int .i64 (Y : Int), .int .i64 z] w fun e w' => ∃ vr vo vm vs, e = .returned (.tuple #[hpv (hMade X Y z) vr vo vm vs, .bool true]) ∧ OwnH w' w.heap.size vr vo vm vs (hMade X Y z) ∧ Below w.heap.size w w' := by
  obtain ⟨i0, hi, hz0, hz1, hz2⟩ := info_parts info
  have T0 : Nine (w.alloc (.cells #[.int .i64 0, .int .i64 0, .slice none 0 0, .int .i64 0, .int .i64 0, .slice none 0 0, .slice none 0 0, .slice none 0 0, .int .i64 0] 37)) w.heap.size 37 (.int .i64 0) (.int .i64 0) (.slice none 0 0) (.int .i64 0) (.int .i64 0) (.slice none 0 0) (.slice none 0 0) (.slice none 0 0) (.int .i64 0) := nine_mk w _ _ _ _ _ _ _ _ _ _
  have B0 : Below w.heap.size w (w.alloc (.cells #[.int .i64 0, .int .i64 0, .slice none 0 0, .int .i64 0, .int .i64 0, .slice none 0 0, .slice none 0 0, .slice none 0 0, .int .i64 0] 37)) := (Below.refl _ w).alloc (Nat.le_refl _) _
  have sX : w.heap.size < (w.alloc (.cells #[.int .i64 0, .int .i64 0, .slice none 0 0, .int .i64 0, .int .i64 0, .slice none 0 0, .slice none 0 0, .slice none 0 0, .int .i64 0] 37)).heap.size := by simp
  generalize hn0 : w.heap.size = n0 at *
  have HT0 : Hid _ := T0
  have HB0 : Hid _ := B0
  have HI : Hid _ := And.intro hi (And.intro hz0 (And.intro hz1 hz2))
  clear T0 B0
  have IN1 := heads.l1In_any X 8 200
  have IN2 := heads.l1In_any Y 8 400
  have IN3 := heads.l1In_any z 0 65535
  rw [show inR 8 200 (X : Int) = true by simp [inR]; omega] at IN1
  rw [show inR 8 400 (Y : Int) = true by simp [inR]; omega] at IN2
  rw [hz] at IN3
  have m1 : ((X : Int).tmod 2 != 0) = false := by rw [Int.tmod_eq_emod_of_nonneg (by omega), show (X : Int) % 2 = 0 by omega]; rfl
  have m2 : ((Y : Int).tmod 2 != 0) = false := by rw [Int.tmod_eq_emod_of_nonneg (by omega), show (Y : Int) % 2 = 0 by omega]; rfl
  have m1' : ((X : Int) % 2 != 0) = false := by rw [show (X : Int) % 2 = 0 by omega]; rfl
  have m2' : ((Y : Int) % 2 != 0) = false := by rw [show (Y : Int) % 2 = 0 by omega]; rfl
  obtain ⟨M, hM⟩ : ∃ M : Nat, 2 * X = M := ⟨_, rfl⟩
  obtain ⟨L, hL⟩ : ∃ L : Nat, 2 * X + Y = L := ⟨_, rfl⟩
  have eM : 2 * (X : Int) = (M : Int) := by omega
  have eL : (M : Int) + (Y : Int) = (L : Int) := by omega
  have bL : L ≤ 800 := by omega
  have bM : M ≤ 400 := by omega
  have HM : Hid _ := hM
  have HL : Hid _ := hL
  have HXY : Hid _ := And.intro hX hY
  have bX : X ≤ 200 := hX.2.1
  have bY : Y ≤ 400 := hY.2.1
  clear hM hL hz hi hz0 hz1 hz2 hX hY
  go_enter Try.func26, Try.ntmps26
  go_wp2_with fail
  generalize (w.alloc (.cells #[.int .i64 0, .int .i64 0, .slice none 0 0, .int .i64 0, .int .i64 0, .slice none 0 0, .slice none 0 0, .slice none 0 0, .int .i64 0] 37)) = X0 at *
  refine (IN1 _).mono ?_
  clear IN1
  rintro e w3 ⟨rfl, hw3⟩
  rw [hw3]
  clear hw3 w3
  have sX0 : n0 ≤ X0.heap.size := by omega
  go_wp2_with (first
    | (have hh := IN2; clear hh; go_at_call 59; refine (IN2 _).mono ?_; clear IN2; rintro e w3 ⟨rfl, hw3⟩; rw [hw3]; clear hw3 w3)
    | (have hh := IN3; clear hh; go_at_call 59; refine (IN3 _).mono ?_; clear IN3; rintro e w3 ⟨rfl, hw3⟩; rw [hw3]; clear hw3 w3)
    | (at_make; refine wpList_make_full _ rfl _ _ 22 rfl n0 2 i0 (.int .i64 0) 1 Try.underlying22 HI.out.1 HI.out.2.1 HI.out.2.2.1 _ _ _ _ L rfl rfl rfl rfl (by rw [HI.out.2.2.2]; omega) (by unfold maxLen; omega) sX0 ?_; intro w1 hown hgrow; have HO : Hid _ := hown; have HG : Hid _ := hgrow; clear hown hgrow; refine Hid.out ?_))
  have BX : Below X0.heap.size X0 w1 := (Below.refl _ _).grown HG.out (Nat.le_refl _) (fun k e => by cases e)
  have F1 : Full w1 X0.heap.size (List.replicate L 0) := own_full HO.out (by simp [cellsOf, toList_madeCells_one, Value.cells])
  have sq := lt_of_block F1
  generalize hq : X0.heap.size = q at *
  have N1 : NewAt n0 w (w1.alloc (.cells #[.int .i64 (X : Int), .int .i64 (Y : Int), .slice (some ⟨q, 0, none⟩) L L, .int .i64 0, .int .i64 0, .slice none 0 0, .slice none 0 0, .slice none 0 0, .int .i64 z] 37)) q w1.heap.size L X Y z (.slice none 0 0) 0 (List.replicate L 0) := by
    have b1 := (Below.refl w1.heap.size w1).alloc (Nat.le_refl _) (.cells #[.int .i64 (X : Int), .int .i64 (Y : Int), .slice (some ⟨q, 0, none⟩) L L, .int .i64 0, .int .i64 0, .slice none 0 0, .slice none 0 0, .slice none 0 0, .int .i64 z] 37)
    refine ⟨nine_mk w1 _ _ _ _ _ _ _ _ _ _, World.ownsRow_nil _ _ _ _, full_belo F1 b1, nine_below (nine_below HT0.out (by rw [hq]; exact BX)) b1, (HB0.out.trans (BX.mono (by omega))).trans (b1.mono ?_), by simp⟩
    have := (HB0.out.trans (BX.mono (by omega))).size
    omega
  have HN1 : Hid _ := N1
  have h0q : n0 < q := by omega
  clear HO HG BX F1 N1 HT0 HB0
  refine Go.Lib.hid ?_
  go_wp2_with fail
  generalize hP : w1.heap.size = P at *
  go_loopw [9] (fun i wr => ∃ (k : Nat) (v : Value), k ≤ 6 ∧ i = .int .i64 (k : Int) ∧ NewAt n0 w wr q P L X Y z v k (List.replicate L 0)) (fun i _ => 6 - (intOf i).toNat)
  case atStart => exact ⟨0, _, by omega, rfl, HN1.out⟩
  case round =>
    obtain ⟨k, v, hk, rfl, hN⟩ := hrel
    clear HN1
    obtain ⟨va, vn, vc, rfl⟩ := ints_slice (own_ints hN.2.1)
    obtain ⟨⟨k0, k1, k2, k3, k4⟩, ⟨k5, k6, k7, k8⟩, kf⟩ := nine_cells hN.1
    have sr := hN.2.2.2.2.2
    by_cases hlt : k < 6
    · have hlt' : (k : Int) < 6 := by omega
      have HOW : Hid ((wr.alloc (.cells #[.int .i64 2] 2)).ownsRow (P + 1) 2 1 (.slice va vn vc) k (cellsOf (List.replicate k 2))) := by
        have := World.ownsRow.alloc hN.2.1 (.cells #[.int .i64 2] 2)
        rw [List.length_replicate] at this
        exact this
      have HNW : Hid (∀ j' u', [Value.int .i64 2][j']? = some u' → (wr.alloc (.cells #[.int .i64 2] 2)).cell? ((⟨wr.heap.size, 0, none⟩ : Addr).add j') = some u') := by
        intro j' u' hj'
        match j', hj' with
        | 0, hj' => simp at hj'; subst hj'; simp [Addr.add]
      have HAPP : Hid (∀ v' w', w'.ownsRow (P + 1) 2 1 v' (k + 1) (cellsOf (List.replicate k 2) ++ [.int .i64 2]) → (wr.alloc (.cells #[.int .i64 2] 2)).grownBy w' (Value.slice va vn vc).ownBlock → _) := fun v' w' ho hg => newAt_app hN h0q (by omega) ho hg
      have sb : P + 1 ≤ (wr.alloc (.cells #[.int .i64 2] 2)).heap.size := by simp; omega
      clear hN kf
      go_wp2_with (at_builtin; refine wpList_append_own_at _ rfl _ _ 22 rfl (P + 1) 2 i0 (.int .i64 0) 1 8 Try.underlying22 HI.out.1 HI.out.2.1 HI.out.2.2.1 HI.out.2.2.2 rfl (by decide) (.slice va vn vc) k (cellsOf (List.replicate k 2)) rfl HOW.out ⟨wr.heap.size, 0, none⟩ 1 1 [.int .i64 2] rfl rfl HNW.out (ints_oneCell .i64 [2]) (by unfold maxLen; omega) (by omega) sb ?_; intro v' w4 hown hgrow _ _; obtain ⟨c0, c1, hh⟩ := HAPP.out v' w4 hown hgrow; obtain ⟨va', vn', vc', rfl⟩ := ints_slice (own_ints hh.2.1); have HDF : Hid _ := hh; clear hown hgrow hh HAPP HOW HNW)
      exact ⟨⟨k + 1, _, by omega, by go_num, HDF.out⟩, by simp [intOf]; omega⟩
    · have e : k = 6 := by omega
      subst e
      have HOF : Hid (wr.ownsRow q 2 1 (.slice (some ⟨q, 0, none⟩) L L) L (cellsOf (List.replicate L 0))) := by
        have := full_own (base := q) hN.2.2.1 (Nat.le_refl _) (by simp [maxLen]; omega)
        unfold Own at this
        rw [List.length_replicate] at this
        exact this
      have LF := l4Free_at (k := M) (n := Y) HOF.out (by simp) (by omega) (by have := HXY.out.2.1; omega) (by have := HM.out; have := HL.out; omega)
      have HN : Hid _ := hN
      clear hN kf
      go_wp2_with fail
      refine LF.mono ?_
      rintro e w5 ⟨⟨u5, rfl⟩, O5, G5⟩
      have lt := blk_lt HN.out.2.1
      have C5 : Ch [q] wr w5 := ⟨G5.os, G5.tape, G5.output, G5.size, fun b hb hn => G5.block b hb (fun e => hn (by injection e with e; simp [e]))⟩
      have N5 : NewAt n0 w w5 q P L X Y z (.slice va vn vc) 6 (freeR (List.replicate L 0) (2 * X) Y) := by
        obtain ⟨p1, p2, p3, p4, p5, p6⟩ := HN.out
        refine ⟨nine_ch p1 C5 (by simp; omega), row_ch p2 C5 (fun b hb e => by have := (lt b hb).1; simp at e; omega), ?_, nine_ch p4 C5 (by simp; omega), p5.trans (below_ch C5 (by omega) (fun b hb => by simp at hb; omega)), Nat.le_trans p6 C5.size⟩
        rw [HM.out]
        exact own_full O5 rfl
      obtain ⟨WZ, hWZ, TZ, OZ, BZ⟩ := newAt_end N5 h0q (by omega) HL.out (by omega) (by have := HXY.out.2.1; omega)
      obtain ⟨⟨j0, j1, j2, j3, j4⟩, ⟨j5, j6, j7, j8⟩, jf⟩ := nine_cells N5.1
      obtain ⟨⟨i0', i1', i2', i3', i4'⟩, ⟨i5', i6', i7', i8'⟩, iF⟩ := nine_cells N5.2.2.2.1
      have d0 := iF 0
      have d1 := iF 1
      have d2 := iF 2
      have d3 := iF 3
      have d4 := iF 4
      have d5 := iF 5
      have d6 := iF 6
      have d7 := iF 7
      have d8 := iF 8
      rw [hWZ] at TZ OZ BZ
      have HTZ : Hid _ := TZ
      have HOZ : Hid _ := OZ
      have HBZ : Hid _ := BZ
      clear LF O5 G5 C5 N5 TZ OZ BZ hWZ jf iF HN HOF k0 k1 k2 k3 k4 k5 k6 k7 k8
      go_wp2
      exact bodyPost_ret (res_heap2 rfl rfl rfl HTZ.out) rfl ⟨_, _, _, _, rfl, HOZ.out, HBZ.out⟩
end Go.Proofs.Ytdogibjgogcdkam.hp
