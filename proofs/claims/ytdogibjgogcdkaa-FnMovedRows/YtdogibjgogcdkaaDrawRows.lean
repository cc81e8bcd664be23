/-
  The draws of chapter 3: a row of the call's own, places and words; nothing that was there is written, but for the cursor's own block.
  Made from the template DrawRows.
-/
import Derived.Test.YtdogibjgogcdkaaDrawOne
import Derived.Test.YtdogibjgogcdkaaInts
namespace Go.Proofs.Ytdogibjgogcdkaa.draw
open Go.RowKit rows

theorem grownBy_own {w w1 w2 : World} {bk : Nat} {v : Value} {hi : Nat} (h : w.grownBy w1 (some bk)) (hg : w1.grownBy w2 v.ownBlock) (hi' : ∀ k, v.ownBlock = some k → w.heap.size ≤ k ∧ k < hi) : w.grownBy w2 (some bk) :=
  ⟨hg.os.trans h.os, hg.tape.trans h.tape, hg.output.trans h.output, Nat.le_trans h.size hg.size, fun k hk hne => (hg.block k (Nat.lt_of_lt_of_le hk h.size) (fun e => by have := (hi' k e.symm).1; omega)).trans (h.block k hk hne)⟩
theorem cur_own {w1 w2 : World} {bk lo hi : Nat} {v : Value} {a : Option Addr} {len cap : Nat} (h : Cur w1 bk a len cap) (hg : w1.grownBy w2 v.ownBlock) (hi' : ∀ k, v.ownBlock = some k → lo ≤ k ∧ k < hi) (hb : bk < lo) : Cur w2 bk a len cap := by
  obtain ⟨i, g, hB, hl⟩ := h
  exact ⟨i, g, (hg.block bk (lt_of_block hB) (fun e => by have := (hi' bk e.symm).1; omega)).trans hB, hl⟩

theorem own_row3 {w : World} {base : Nat} {v : Value} {xs : List Int} {x : Int} (h : w.ownsRow base 2 1 v (xs.length + 1) (cellsOf xs ++ [.int .i64 x])) : Own w base v (xs ++ [x]) := by
  unfold Own
  simpa [cellsOf] using h
theorem own_row4 {w : World} {base n : Nat} {v : Value} (h : w.ownsRow base 2 1 v n (madeCells (Value.int .i64 0).cells (n * 1)).toList) : Own w base v (List.replicate n 0) := by
  unfold Own
  simpa [cellsOf, toList_madeCells_one, Value.cells] using h
theorem grownBy_none {w w' : World} {r : Option Nat} (h : w.grownBy w' none) : w.grownBy w' r := ⟨h.os, h.tape, h.output, h.size, fun k hk _ => h.block k hk (by simp)⟩
theorem cur_none {w w' : World} {bk : Nat} {a : Option Addr} {len cap : Nat} (h : Cur w bk a len cap) (hg : w.grownBy w' none) : Cur w' bk a len cap := by
  obtain ⟨i, g, hB, hl⟩ := h
  exact ⟨i, g, (hg.block bk (lt_of_block hB) (by simp)).trans hB, hl⟩

set_option maxHeartbeats 4000000 in
theorem l3Draw_any {W w : World} {bk : Nat} {a : Option Addr} {len cap : Nat} {zs : List Int} (hr : IsRow .u8 W a len cap zs) (hW : Below W.heap.size W w) (hbk : W.heap.size ≤ bk) (hc : Cur w bk a len cap) :
    Calls Try.prog 78 #[.pointer (some ⟨bk, 0, none⟩)] w fun e w' => ∃ (v : Value) (xs : List Int), xs.length ≤ 1001 ∧ e = .returned v ∧ Own w' w.heap.size v xs ∧ w.grownBy w' (some bk) ∧ Cur w' bk a len cap := by
  have step : ∀ {w' : World}, w.grownBy w' (some bk) → Below W.heap.size W w' := fun hg => hW.grown hg hW.size (fun k e => by cases e; exact hbk)
  obtain ⟨i0, hi, hz0, hz1, hz2⟩ := info_parts info
  have lbk := cur_lt hc
  have OWN : (w.alloc (.cells #[] 2)).ownsRow w.heap.size 2 1 (.slice (some ⟨w.heap.size, 0, none⟩) 0 0) 0 [] := ⟨rfl, .inr ⟨w.heap.size, 0, #[], rfl, Nat.le_refl _, heap_alloc_new w _, Nat.le_refl _, by decide, rfl, rfl⟩⟩
  go_enter Try.func78, Try.ntmps78
  go_wp2_with fail
  refine (below_any 20 hr (step (grownBy_alloc (grownBy_refl _ _) _)) hbk (cur_alloc hc _)).mono ?_
  rintro e w1 ⟨n, hn0, _, hn1, rfl, hg1, hc1⟩
  have hn2 := hn1 (by decide)
  clear hn1
  have O1 : Own w1 w.heap.size (.slice (some ⟨w.heap.size, 0, none⟩) 0 0) [] := World.ownsRow.kept (xs := []) OWN hg1 (.inr (by simp [Value.ownBlock]; omega))
  have hg1 := grownBy_trans (grownBy_alloc (grownBy_refl _ _) _) hg1
  obtain ⟨N, rfl⟩ := Int.eq_ofNat_of_zero_le hn0
  clear OWN hn0
  go_wp2_with fail
  go_loopw [3, 4] (fun v i wr => ∃ (k : Nat) (xs : List Int) (v3 : Value), v3 = v ∧ k ≤ N ∧ xs.length + k = N ∧ i = .int .i64 (k : Int) ∧ Own wr w.heap.size v xs ∧ w.grownBy wr (some bk) ∧ Cur wr bk a len cap) (fun _ i _ => (intOf i).toNat)
  case atStart => exact ⟨N, [], _, rfl, Nat.le_refl _, by simp, rfl, O1, hg1, hc1⟩
  case round =>
    obtain ⟨k, xs, v3, rfl, hk, hx, rfl, Or, Gr, Cr⟩ := hrel
    by_cases hlt : 0 < k
    · have hlt' : (k : Int) > 0 := by omega
      go_wp2_with fail
      refine (one_any hr (step Gr) hbk Cr).mono ?_
      rintro e w2 ⟨x, hx0, hx1, rfl, hg2, hc2⟩
      have I := World.ownsRow.lt Or
      have O2 : Own w2 w.heap.size v3 xs := World.ownsRow.kept Or hg2 (by
        cases e : v3.ownBlock with
        | none => exact .inl rfl
        | some g => have := I g e; exact .inr (fun e' => by injection e' with e'; omega))
      have I2 := World.ownsRow.lt O2
      have G2 := grownBy_trans Gr hg2
      clear hg2 Or Gr Cr I
      have NEWS : ∀ j u, [Value.int .i64 x][j]? = some u → (w2.alloc (.cells #[.int .i64 x] 2)).cell? ((⟨w2.heap.size, 0, none⟩ : Addr).add j) = some u := by
        intro j u hj
        match j, hj with
        | 0, hj => simp at hj; subst hj; simp [Addr.add]
      have sz2 := G2.size
      go_wp2_with (at_builtin; refine wpList_append_own _ rfl _ _ 36 rfl w.heap.size 2 i0 (.int .i64 0) 1 8 Try.underlying36 hi hz0 hz1 hz2 rfl (by decide) v3 xs.length (cellsOf xs) rfl (World.ownsRow.alloc O2 _) ⟨w2.heap.size, 0, none⟩ 1 1 [.int .i64 x] rfl rfl NEWS (ints_oneCell .i64 [x]) (by unfold maxLen; omega) (by omega) (by simp; omega) ?_; intro v' w3 hown hgrow _)
      have O3 : Own w3 w.heap.size v' (xs ++ [x]) := own_row3 hown
      have G3 := grownBy_own (grownBy_alloc G2 _) hgrow I2
      have C3 := cur_own (cur_alloc hc2 _) hgrow I2 lbk
      clear hown hgrow O2 I2 G2 hc2 NEWS
      go_wp2
      go_roundw
      case rel => exact ⟨k - 1, xs ++ [x], v', rfl, by omega, by simp; omega, by go_num, O3, G3, C3⟩
      case measure => simp [intOf]; omega
    · have hlt' : ¬ (k : Int) > 0 := by omega
      go_wp2_with fail
      refine (once_any 40 hr (step Gr) hbk Cr).mono ?_
      rintro e w2 ⟨b, rfl, hg2, hc2⟩
      have I := World.ownsRow.lt Or
      have O2 : Own w2 w.heap.size v3 xs := World.ownsRow.kept Or hg2 (by
        cases e : v3.ownBlock with
        | none => exact .inl rfl
        | some g => have := I g e; exact .inr (fun e' => by injection e' with e'; omega))
      have G2 := grownBy_trans Gr hg2
      clear hg2 Or Gr Cr I
      cases b
      · go_wp2
        go_ret
        exact ⟨v3, xs, by omega, rfl, O2, G2, hc2⟩
      · go_wp2_with fail
        refine (below_any 2 hr (step G2) hbk hc2).mono ?_
        rintro e w4 ⟨y, hy0, _, hy1, rfl, hg4, hc4⟩
        have hy2 := hy1 (by decide)
        clear hy1
        obtain ⟨Y, rfl⟩ := Int.eq_ofNat_of_zero_le hy0
        have G4 := grownBy_trans G2 hg4
        have sz4 := G4.size
        clear hg4 O2 G2 hc2
        go_wp2_with (at_make; refine wpList_make_full _ rfl _ _ 36 rfl w.heap.size 2 i0 (.int .i64 0) 1 Try.underlying36 hi hz0 hz1 _ _ _ _ (1000 + Y) rfl rfl (by simp) (by simp) (by rw [hz2]; omega) (by unfold maxLen; omega) (by omega) ?_; intro w5 hown hgrow)
        have O5 : Own w5 w.heap.size (.slice (some ⟨w4.heap.size, 0, none⟩) (1000 + Y) (1000 + Y)) (List.replicate (1000 + Y) 0) := own_row4 hown
        have G5 := grownBy_trans G4 (grownBy_none hgrow)
        have C5 := cur_none hc4 hgrow
        clear hown hgrow hc4 G4
        go_wp2
        go_ret
        exact ⟨_, List.replicate (1000 + Y) 0, by simp; omega, rfl, O5, G5, C5⟩
end Go.Proofs.Ytdogibjgogcdkaa.draw
