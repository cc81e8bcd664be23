/-
  The walk of the law FnExactObjectAt, given what the program's ObjectAt answers.
  Made from the template ExactObjectAt.
-/
import Derived.Test.YtdogibjgogcdkaiExactKit4
import Derived.Test.YtdogibjgogcdkaiObjS2
namespace Go.Proofs.Ytdogibjgogcdkai.walks
open Go.RowKit rows heads words

theorem eqHead_same (s f c h : Int) (p m : Bool) (w : World) :
    Calls Try.prog 23 #[hv s f c h p m, hv s f c h p m] w fun e w' => e = .returned (.bool true) ∧ Below w.heap.size w w' := by
  go_enter Try.func23, Try.ntmps23
  go_wp2
  go_ret
  exact ⟨rfl, ((Below.refl _ _).alloc (Nat.le_refl _) _).alloc (by simp) _⟩

theorem objWords_length (xs : List Int) (i : Int) (h : xs.length ≤ 1048576) : (objWords xs i).length ≤ 1048576 := by
  unfold objWords
  split
  · rw [List.length_take, List.length_drop]; omega
  · simp
theorem own_alloc {w : World} {base : Nat} {v : Value} {xs : List Int} (h : Own w base v xs) (o : Obj) : Own (w.alloc o) base v xs := own_below h ((Below.refl _ _).alloc (Nat.le_refl _) o)
theorem headAt_grown' {w w' : World} {b lo hi : Nat} {u : Value} {s f c h : Int} {p m : Bool} (T : HeadAt w b s f c h p m) (hg : w.grownBy w' u.ownBlock) (i : In lo hi u) (hne : b < lo ∨ hi ≤ b) : HeadAt w' b s f c h p m :=
  (hg.block b (lt_of_block T) (fun e => by have := i b e.symm; omega)).trans T
theorem headAt_drewN {w : World} {b n : Nat} {s f c h : Int} {p m : Bool} (T : HeadAt w b s f c h p m) : HeadAt (w.drewN n) b s f c h p m := T

set_option maxRecDepth 100000 in
set_option maxHeartbeats 16000000 in
theorem exactObjectAt (IMPL : ∀ (w : World) (v : Value) (xs : List Int) (i : Int), IntsAt w v xs → xs.length ≤ 1048576 → AllI xs → I64 i → Calls Try.prog 22 #[v, .int .i64 i] w fun e w' => ∃ v', e = .returned (.tuple #[hw (oN xs i), v', .bool (objOk xs i)]) ∧ Own w' w.heap.size v' (objWords xs i) ∧ Below w.heap.size w w')
    (w : World) (v : Value) (xs : List Int) (i : Int) (h : IntsAt w v xs) (ha : AllI xs) (hi : I64 i) :
    Calls Try.prog 7 #[v, .int .i64 i] w fun e w' => e = .returned (.bool true) ∧ Below w.heap.size w w' := by
  have h' := h
  obtain ⟨a, cap, rfl, hlc, hcm, hnil, hc⟩ := h
  clear hc hnil
  by_cases hl : xs.length ≤ 1048576
  · have hl' : ¬ (xs.length : Int) > 1048576 := by omega
    have hy := objWords_length xs i hl
    have SPEC : ∀ (w : World) (v : Value), IntsAt w v xs → _ := fun w v hv => sObjectAt_any (w := w) (v := v) hv hl i
    have IMPL : ∀ (w : World) (v : Value), IntsAt w v xs → _ := fun w v hv => IMPL w v xs i hv hl ha hi
    unfold hw at SPEC IMPL
    generalize uS (oN xs i) = s at *
    generalize uF (oN xs i) = f at *
    generalize uC (oN xs i) = c at *
    generalize uH (oN xs i) = g at *
    generalize uP (oN xs i) = p at *
    generalize uM (oN xs i) = m at *
    generalize objOk xs i = ok at *
    generalize objWords xs i = ws at *
    go_enter Try.func7, Try.ntmps7
    go_wp2_with fail
    refine (toInt64S_any h' hl).mono ?_
    rintro e w1 ⟨rfl, F1, B1⟩
    have s1 : w.heap.size < w1.heap.size := lt_of_block F1
    go_wp2_with fail
    refine (SPEC _ _ (own_ints (full_own F1 (Nat.le_refl _) (by unfold maxLen; omega)))).mono ?_
    rintro e w2 ⟨vW, rfl, OW, b2⟩
    have s2 := b2.size
    have B2 := (B1.trans (b2.mono (Nat.le_of_lt s1))).alloc (by omega) (hb s f c g p m)
    have IW := own_in OW
    have TW := headAt_new w2 s f c g p m
    have OW := own_alloc OW (hb s f c g p m)
    have sX : w2.heap.size + 1 ≤ (w2.alloc (hb s f c g p m)).heap.size ∧ (w2.alloc (hb s f c g p m)).heap.size ≤ w2.heap.size + 1 := by simp
    clear b2 F1 B1
    go_wp2_with fail
    generalize (w2.alloc (Obj.cells #[.int .i64 s, .int .i64 f, .int .i64 c, .int .i64 g, .bool p, .bool m] 34)) = X2 at *
    refine (toInt64S_any (intsAt_below h' B2) hl).mono ?_
    rintro e w3 ⟨rfl, F3, b3⟩
    have s3 : X2.heap.size < w3.heap.size := lt_of_block F3
    have B3 := B2.trans (b3.mono (by omega))
    have OW := own_below OW b3
    have TW := headAt_below TW b3
    clear b3 B2
    go_wp2_with fail
    refine (IMPL w3 _ (own_ints (full_own F3 (Nat.le_refl _) (by unfold maxLen; omega)))).mono ?_
    rintro e w4 ⟨vG, rfl, OG, b4⟩
    have s4 := b4.size
    have B4 := (B3.trans (b4.mono (by omega))).alloc (by omega) (hb s f c g p m)
    have OW := own_alloc (own_below OW b4) (hb s f c g p m)
    have OX := own_alloc (own_below (full_own F3 (Nat.le_refl _) (by unfold maxLen; omega)) b4) (hb s f c g p m)
    have TW := headAt_alloc (headAt_below TW b4) (hb s f c g p m)
    have IG := own_in OG
    have TG := headAt_new w4 s f c g p m
    have OG := own_alloc OG (hb s f c g p m)
    have sY : w4.heap.size + 1 ≤ (w4.alloc (hb s f c g p m)).heap.size ∧ (w4.alloc (hb s f c g p m)).heap.size ≤ w4.heap.size + 1 := by simp
    clear b4 B3 F3
    obtain ⟨u0, u1, u2, u3, u4, u5, _⟩ := headAt_cells TW
    obtain ⟨t0, t1, t2, t3, t4, t5, _⟩ := headAt_cells TG
    go_wp2_with fail
    generalize (w4.alloc (Obj.cells #[.int .i64 s, .int .i64 f, .int .i64 c, .int .i64 g, .bool p, .bool m] 34)) = X4 at *
    clear u0 u1 u2 u3 u4 u5 t0 t1 t2 t3 t4 t5
    refine (eqHead_same s f c g p m X4).mono ?_
    rintro e w5 ⟨rfl, b5⟩
    have s5 := b5.size
    have OW := own_below OW b5
    have OX := own_below OX b5
    have OG := own_below OG b5
    have TW := headAt_below TW b5
    have TG := headAt_below TG b5
    have B5 := B4.trans (b5.mono (by omega))
    clear b5 B4
    go_wp2_with fail
    refine (eqInt64S_same (own_ints OG) (own_ints OW) hy).mono ?_
    rintro e w5' ⟨rfl, q5, rfl⟩
    go_wp2_with fail
    refine (toInt64S_any (w := w5.drewN q5) (intsAt_below h' (rows.below_drewN B5)) hl).mono ?_
    rintro e w6 ⟨rfl, F6, b6⟩
    have s6 : w5.heap.size < w6.heap.size := lt_of_block F6
    have B6 := (rows.below_drewN (n := q5) B5).trans (b6.mono (show w.heap.size ≤ w5.heap.size by omega))
    have OW := own_below (own_drewN (n := q5) OW) b6
    have OX := own_below (own_drewN (n := q5) OX) b6
    have OG := own_below (own_drewN (n := q5) OG) b6
    have TW := headAt_below (headAt_drewN (n := q5) TW) b6
    have TG := headAt_below (headAt_drewN (n := q5) TG) b6
    clear b6 B5
    go_wp2_with fail
    refine (eqInt64S_same (own_ints OX) (own_ints (full_own F6 (Nat.le_refl _) (by unfold maxLen; omega))) hl).mono ?_
    rintro e w7 ⟨rfl, q7, rfl⟩
    have OW := own_drewN (n := q7) OW
    have OX := own_drewN (n := q7) OX
    have OG := own_drewN (n := q7) OG
    have TW := headAt_drewN (n := q7) TW
    have TG := headAt_drewN (n := q7) TG
    have B7 := rows.below_drewN (n := q7) B6
    clear F6 B6
    generalize hw7 : w6.drewN q7 = w7 at *
    have s7 : w6.heap.size = w7.heap.size := by rw [← hw7]; rfl
    clear hw7
    go_wp2_with fail
    refine (markInt64S_any OX hl 1 (by omega) (by omega)).mono ?_
    rintro e w8 ⟨rfl, OX8, g8⟩
    have IX : In X2.heap.size (X2.heap.size + 1) (.slice (some ⟨X2.heap.size, 0, none⟩) xs.length xs.length) := full_in
    have s8 := g8.size
    have OW := own_grown' OW IW g8 IX (.inr (by omega))
    have OG := own_grown' OG IG g8 IX (.inl (by omega))
    have TW := headAt_grown' TW g8 IX (.inl (by omega))
    have TG := headAt_grown' TG g8 IX (.inr (by omega))
    have B8 := below_own B7 g8 IX (by omega) (by omega)
    clear B7 g8 OX OX8
    obtain ⟨u0, u1, u2, u3, u4, u5, _⟩ := headAt_cells TW
    obtain ⟨t0, t1, t2, t3, t4, t5, _⟩ := headAt_cells TG
    go_wp2_with fail
    clear u0 u1 u2 u3 u4 u5 t0 t1 t2 t3 t4 t5
    refine (eqHead_same s f c g p m w8).mono ?_
    rintro e w8' ⟨rfl, b8⟩
    have s8' := b8.size
    have OW := own_below OW b8
    have OG := own_below OG b8
    have TW := headAt_below TW b8
    have B8' := B8.trans (b8.mono (by omega))
    clear b8 B8 TG
    go_wp2_with fail
    refine (eqInt64S_same (own_ints OG) (own_ints OW) hy).mono ?_
    rintro e w9 ⟨rfl, q9, rfl⟩
    have OW := own_drewN (n := q9) OW
    have OG := own_drewN (n := q9) OG
    have TW := headAt_drewN (n := q9) TW
    have B9 := rows.below_drewN (n := q9) B8'
    clear B8'
    generalize hw9 : w8'.drewN q9 = w9 at *
    have s9 : w8'.heap.size = w9.heap.size := by rw [← hw9]; rfl
    clear hw9
    go_wp2_with fail
    refine (markInt64S_any OG hy 1 (by omega) (by omega)).mono ?_
    rintro e w10 ⟨rfl, OG, g10⟩
    have s10 := g10.size
    have OW := own_grown' OW IW g10 IG (.inr (by omega))
    have TW := headAt_grown' TW g10 IG (.inl (by omega))
    have B10 := below_own B9 g10 IG (by omega) (by omega)
    clear B9 g10
    go_wp2_with fail
    refine (heldInt64S_any 1 (own_ints OG) hy (by omega) (by omega)).mono ?_
    rintro e w10' ⟨rfl, hw⟩
    rw [hw]
    clear hw w10'
    go_wp2_with fail
    refine (toInt64S_any (intsAt_below h' B10) hl).mono ?_
    rintro e w11 ⟨rfl, F11, b11⟩
    have s11 : w10.heap.size < w11.heap.size := lt_of_block F11
    have B11 := B10.trans (b11.mono (by omega))
    have OW := own_below OW b11
    have OG := own_below OG b11
    have TW := headAt_below TW b11
    clear b11 B10
    go_wp2_with fail
    refine (IMPL w11 _ (own_ints (full_own F11 (Nat.le_refl _) (by unfold maxLen; omega)))).mono ?_
    rintro e w12 ⟨vH, rfl, OH, b12⟩
    have s12 := b12.size
    have B12 := (B11.trans (b12.mono (by omega))).alloc (by omega) (hb s f c g p m)
    have OW := own_alloc (own_below OW b12) (hb s f c g p m)
    have OG := own_alloc (own_below OG b12) (hb s f c g p m)
    have TW := headAt_alloc (headAt_below TW b12) (hb s f c g p m)
    have TH := headAt_new w12 s f c g p m
    have OH := own_alloc OH (hb s f c g p m)
    have sZ : w12.heap.size + 1 ≤ (w12.alloc (hb s f c g p m)).heap.size ∧ (w12.alloc (hb s f c g p m)).heap.size ≤ w12.heap.size + 1 := by simp
    clear b12 B11 F11
    obtain ⟨u0, u1, u2, u3, u4, u5, _⟩ := headAt_cells TW
    obtain ⟨t0, t1, t2, t3, t4, t5, _⟩ := headAt_cells TH
    go_wp2_with fail
    generalize (w12.alloc (Obj.cells #[.int .i64 s, .int .i64 f, .int .i64 c, .int .i64 g, .bool p, .bool m] 34)) = X12 at *
    clear u0 u1 u2 u3 u4 u5 t0 t1 t2 t3 t4 t5 TW TH
    refine (eqHead_same s f c g p m X12).mono ?_
    rintro e w13 ⟨rfl, b13⟩
    have s13 := b13.size
    have OW := own_below OW b13
    have OG := own_below OG b13
    have OH := own_below OH b13
    have B13 := B12.trans (b13.mono (by omega))
    clear b13 B12
    go_wp2_with fail
    refine (eqInt64S_same (own_ints OH) (own_ints OW) hy).mono ?_
    rintro e w14 ⟨rfl, q14, rfl⟩
    have OG := own_drewN (n := q14) OG
    have B14 := rows.below_drewN (n := q14) B13
    clear B13 OW OH
    go_wp2_with fail
    refine (heldInt64S_any (w := w13.drewN q14) 1 (own_ints OG) hy (by omega) (by omega)).mono ?_
    rintro e w15 ⟨rfl, hw⟩
    rw [hw]
    clear hw w15
    go_wp2
    go_ret
    exact ⟨rfl, B14⟩
  · have hl' : (xs.length : Int) > 1048576 := by omega
    go_enter Try.func7, Try.ntmps7
    go_wp2
    go_ret
    exact ⟨rfl, Below.refl _ _⟩
end Go.Proofs.Ytdogibjgogcdkai.walks
