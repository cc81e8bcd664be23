/-
  The walk of the law FnExactPutObject, given what the program's PutObject answers.
  Made from the template ExactPutObject.
-/
import Derived.Test.YtdogibjgogcdkaiExactKit4
import Derived.Test.YtdogibjgogcdkaiPutS2
import Derived.Test.YtdogibjgogcdkaiToHead
import Derived.Deep.RegionLaw
namespace Go.Proofs.Ytdogibjgogcdkai.walks
open Go.RowKit rows heads words

theorem toHead_below (s f c h : Int) (p m : Bool) (w : World) :
    Calls Try.prog 25 #[hv s f c h p m] w fun e w' => e = .returned (hv s f c h p m) ∧ Below w.heap.size w w' :=
  (toHead_any s f c h p m w).mono fun _ _ ⟨he, hw⟩ => ⟨he, hw ▸ (((Below.refl _ _).alloc (Nat.le_refl _) _).alloc (by simp) _).alloc (by simp; omega) _⟩

theorem putRow_length (xs ys : List Int) (i s f c g : Int) (p m : Bool) (h : xs.length ≤ 1048576) : (putRow xs i s f c g p m ys).length ≤ 1048576 := by
  unfold putRow
  split
  · rename_i e
    simp only [putOk, Bool.and_eq_true, decide_eq_true_eq] at e
    obtain ⟨⟨_, ⟨⟨⟨⟨e1, _⟩, _⟩, e4⟩, e5⟩, e6⟩, _⟩ := e
    obtain ⟨s0, s1, _⟩ := hok_true e1
    have hz := sz_bounds s0 s1
    have := atOk_true e5
    rw [put_length (by omega) (Nat.le_refl _) (by omega)]
    exact h
  · split
    · exact h
    · simp

/-- The block that holds a head of the laws. -/
def LawAt (w : World) (b : Nat) (s f c h : Int) (p m : Bool) : Prop := w.heap[b]? = some (.cells #[.int .i64 s, .int .i64 f, .int .i64 c, .int .i64 h, .bool p, .bool m] 38 (0, 0))
theorem lawAt_cells {w : World} {b : Nat} {s f c h : Int} {p m : Bool} (hh : LawAt w b s f c h p m) :
    w.cell? ⟨b, 0, none⟩ = some (.int .i64 s) ∧ w.cell? ⟨b, 1, none⟩ = some (.int .i64 f) ∧ w.cell? ⟨b, 2, none⟩ = some (.int .i64 c) ∧ w.cell? ⟨b, 3, none⟩ = some (.int .i64 h) ∧ w.cell? ⟨b, 4, none⟩ = some (.bool p) ∧ w.cell? ⟨b, 5, none⟩ = some (.bool m) := by
  unfold LawAt at hh
  refine ⟨?_, ?_, ?_, ?_, ?_, ?_⟩
  all_goals simp [World.cell?, hh]
theorem lawAt_below {w w' : World} {b : Nat} {s f c h : Int} {p m : Bool} (T : LawAt w b s f c h p m) (hb : Below w.heap.size w w') : LawAt w' b s f c h p m := (hb.block b (lt_of_block T)).trans T
theorem lawAt_grown {w w' : World} {b lo hi : Nat} {u : Value} {s f c h : Int} {p m : Bool} (T : LawAt w b s f c h p m) (hg : w.grownBy w' u.ownBlock) (i : In lo hi u) (hne : b < lo ∨ hi ≤ b) : LawAt w' b s f c h p m :=
  (hg.block b (lt_of_block T) (fun e => by have := i b e.symm; omega)).trans T

set_option maxRecDepth 100000 in
set_option maxHeartbeats 32000000 in
theorem exactPutObject (IMPL : ∀ (w : World) (v vs : Value) (xs ys : List Int) (i s f c g : Int) (p m : Bool), IntsAt w v xs → IntsAt w vs ys → xs.length ≤ 1048576 → ys.length ≤ 1048576 → AllI xs → AllI ys → I64 i → I64 s → I64 f → I64 c → I64 g → Calls Try.prog 26 #[v, .int .i64 i, hv s f c g p m, vs] w fun e w' => ∃ v', e = .returned (.tuple #[v', .bool (putOk xs i s f c g p m ys)]) ∧ Own w' w.heap.size v' (putRow xs i s f c g p m ys) ∧ Below w.heap.size w w')
    (w : World) (v vs : Value) (xs ys : List Int) (i s f c g : Int) (p m : Bool) (h : IntsAt w v xs) (hy : IntsAt w vs ys) (ha : AllI xs) (hya : AllI ys) (hi : I64 i) (hs : I64 s) (hf : I64 f) (hc : I64 c) (hg : I64 g) :
    Calls Try.prog 8 #[v, .int .i64 i, hv s f c g p m, vs] w fun e w' => e = .returned (.bool true) ∧ Below w.heap.size w w' := by
  have h' := h
  obtain ⟨a, cap, rfl, hlc, hcm, hnil, _⟩ := h
  have hy' := hy
  obtain ⟨ya, ycap, rfl, ylc, ycm, ynil, _⟩ := hy
  clear hnil ynil
  by_cases hl : xs.length ≤ 1048576
  · have hl' : ¬ (xs.length : Int) > 1048576 := by omega
    by_cases hl2 : ys.length ≤ 1048576
    · have hl2' : ¬ (ys.length : Int) > 1048576 := by omega
      have hyl := putRow_length xs ys i s f c g p m hl
      have SPEC : ∀ (w : World) (v vs : Value), IntsAt w v xs → IntsAt w vs ys → _ := fun w v vs hv hw => sPutObject_any (w := w) (v := v) (vs := vs) hv hw hl i hi s f c g p m
      have IMPL : ∀ (w : World) (v vs : Value), IntsAt w v xs → IntsAt w vs ys → _ := fun w v vs hv hw => IMPL w v vs xs ys i s f c g p m hv hw hl hl2 ha hya hi hs hf hc hg
      generalize putRow xs i s f c g p m ys = ws at *
      generalize putOk xs i s f c g p m ys = ok at *
      have B0 : Below w.heap.size w (w.alloc (lb s f c g p m)) := (Below.refl _ _).alloc (Nat.le_refl _) _
      have T0 : LawAt (w.alloc (lb s f c g p m)) w.heap.size s f c g p m := heap_alloc_new w _
      have s0 : w.heap.size + 1 ≤ (w.alloc (lb s f c g p m)).heap.size := by simp
      go_enter Try.func8, Try.ntmps8
      go_wp2_with fail
      generalize (w.alloc (Obj.cells #[.int .i64 s, .int .i64 f, .int .i64 c, .int .i64 g, .bool p, .bool m] 38)) = X at *
      obtain ⟨t0, t1, t2, t3, t4, t5⟩ := lawAt_cells T0
      have R1 : ∀ W, Below w.heap.size w W → _ := fun W hW => toInt64S_any (intsAt_below h' hW) hl
      have R2 : ∀ W, Below w.heap.size w W → _ := fun W hW => toInt64S_any (intsAt_below hy' hW) hl2
      have BL : Below w.heap.size w X.drew := B0.drew
      have TL : LawAt X.drew w.heap.size s f c g p m := T0
      have sL : w.heap.size + 1 ≤ X.drew.heap.size := s0
      go_region_law (first
        | (go_simp; go_at_call 10; refine (R1 _ BL).mono ?_; clear R1; rintro e w1 ⟨rfl, F1, b1⟩; have s1 := lt_of_block F1; have O1 := full_own F1 (Nat.le_refl _) (show xs.length ≤ maxLen by unfold maxLen; omega); have BL1 := BL.trans (b1.mono (by omega)); have TL1 := lawAt_below TL b1; obtain ⟨u0, u1, u2, u3, u4, u5⟩ := lawAt_cells TL1; clear b1 F1)
        | (go_simp; go_at_call 25; refine (toHead_below s f c g p m _).mono ?_; rintro e w2 ⟨rfl, b2⟩; have s2 := b2.size; have O2 := own_below O1 b2; have BL2 := BL1.trans (b2.mono (by omega)); have TL2 := lawAt_below TL1 b2; clear b2)
        | (go_simp; go_at_call 10; refine (R2 _ BL2).mono ?_; clear R2; rintro e w3 ⟨rfl, F3, b3⟩; have s3 := lt_of_block F3; have O3 := own_below O2 b3; have Q3 := full_own F3 (Nat.le_refl _) (show ys.length ≤ maxLen by unfold maxLen; omega); have BL3 := BL2.trans (b3.mono (by omega)); have TL3 := lawAt_below TL2 b3; clear b3 F3)
        | (go_simp; go_at_call 24; refine (SPEC _ _ _ (own_ints O3) (own_ints Q3)).mono ?_; rintro e w4 ⟨vW, rfl, OW, b4⟩; have s4 := b4.size; have BL4 := BL3.trans (b4.mono (by omega)); have TL4 := lawAt_below TL3 b4; clear b4 O1 O2 O3 Q3 BL1 BL2 BL3 TL1 TL2 TL3 u0 u1 u2 u3 u4 u5))
      all_goals
        have R1 : ∀ W, Below w.heap.size w W → _ := fun W hW => toInt64S_any (intsAt_below h' hW) hl
        have R2 : ∀ W, Below w.heap.size w W → _ := fun W hW => toInt64S_any (intsAt_below hy' hW) hl2
        have IW := own_in OW
        have sW : w.heap.size + 1 ≤ w3.heap.size := by omega
        clear s0 sL B0 T0 BL TL t0 t1 t2 t3 t4 t5 s1 s2 s3
        go_wp2_with fail
        refine (R1 _ BL4).mono ?_
        rintro e w5 ⟨rfl, F5, b5⟩
        have s5 := lt_of_block F5
        have B5 := BL4.trans (b5.mono (by omega))
        have T5 := lawAt_below TL4 b5
        have OW := own_below OW b5
        have OX := full_own F5 (Nat.le_refl _) (show xs.length ≤ maxLen by unfold maxLen; omega)
        clear b5 BL4 TL4 F5
        go_wp2_with fail
        refine (R2 _ B5).mono ?_
        rintro e w6 ⟨rfl, F6, b6⟩
        have s6 := lt_of_block F6
        have B6 := B5.trans (b6.mono (by omega))
        have T6 := lawAt_below T5 b6
        have OW := own_below OW b6
        have OX := own_below OX b6
        have OY := full_own F6 (Nat.le_refl _) (show ys.length ≤ maxLen by unfold maxLen; omega)
        clear b6 B5 T5 F6
        obtain ⟨u0, u1, u2, u3, u4, u5⟩ := lawAt_cells T6
        go_wp2_with fail
        refine (toHead_below s f c g p m _).mono ?_
        rintro e w7 ⟨rfl, b7⟩
        have s7 := b7.size
        have B7 := B6.trans (b7.mono (by omega))
        have T7 := lawAt_below T6 b7
        have OW := own_below OW b7
        have OX := own_below OX b7
        have OY := own_below OY b7
        clear b7 B6 T6 u0 u1 u2 u3 u4 u5
        go_wp2_with fail
        refine (IMPL _ _ _ (own_ints OX) (own_ints OY)).mono ?_
        rintro e w8 ⟨vG, rfl, OG, b8⟩
        have s8 := b8.size
        have B8 := B7.trans (b8.mono (by omega))
        have T8 := lawAt_below T7 b8
        have OW := own_below OW b8
        have OX := own_below OX b8
        have OY := own_below OY b8
        have IG := own_in OG
        clear b8 B7 T7
        go_wp2_with fail
        refine (eqInt64S_same (own_ints OG) (own_ints OW) hyl).mono ?_
        rintro e w9 ⟨rfl, q9, rfl⟩
        go_wp2_with fail
        refine (R1 (w8.drewN q9) (rows.below_drewN B8)).mono ?_
        rintro e w10 ⟨rfl, F10, b10⟩
        have s10 : w8.heap.size < w10.heap.size := lt_of_block F10
        have B10 := (rows.below_drewN (n := q9) B8).trans (b10.mono (show w.heap.size ≤ w8.heap.size by omega))
        have T10 := lawAt_below (show LawAt (w8.drewN q9) _ _ _ _ _ _ _ from T8) b10
        have OW := own_below (own_drewN (n := q9) OW) b10
        have OX := own_below (own_drewN (n := q9) OX) b10
        have OY := own_below (own_drewN (n := q9) OY) b10
        have OG := own_below (own_drewN (n := q9) OG) b10
        clear b10 B8 T8
        go_wp2_with fail
        refine (eqInt64S_same (own_ints OX) (own_ints (full_own F10 (Nat.le_refl _) (by unfold maxLen; omega))) hl).mono ?_
        rintro e w11 ⟨rfl, q11, rfl⟩
        clear F10
        go_wp2_with fail
        refine (R2 (w10.drewN q11) (rows.below_drewN B10)).mono ?_
        rintro e w12 ⟨rfl, F12, b12⟩
        have s12 : w10.heap.size < w12.heap.size := lt_of_block F12
        have B12 := (rows.below_drewN (n := q11) B10).trans (b12.mono (show w.heap.size ≤ w10.heap.size by omega))
        have T12 := lawAt_below (show LawAt (w10.drewN q11) _ _ _ _ _ _ _ from T10) b12
        have OW := own_below (own_drewN (n := q11) OW) b12
        have OX := own_below (own_drewN (n := q11) OX) b12
        have OY := own_below (own_drewN (n := q11) OY) b12
        have OG := own_below (own_drewN (n := q11) OG) b12
        clear b12 B10 T10
        go_wp2_with fail
        refine (eqInt64S_same (own_ints OY) (own_ints (full_own F12 (Nat.le_refl _) (by unfold maxLen; omega))) hl2).mono ?_
        rintro e w13 ⟨rfl, q13, rfl⟩
        clear F12
        have OW := own_drewN (n := q13) OW
        have OX := own_drewN (n := q13) OX
        have OY := own_drewN (n := q13) OY
        have OG := own_drewN (n := q13) OG
        have T13 : LawAt (w12.drewN q13) w.heap.size s f c g p m := T12
        have B13 := rows.below_drewN (n := q13) B12
        clear B12 T12
        generalize hw13 : w12.drewN q13 = w13 at *
        have s13 : w12.heap.size = w13.heap.size := by rw [← hw13]; rfl
        clear hw13
        go_wp2_with fail
        refine (markInt64S_any OX hl 1 (by omega) (by omega)).mono ?_
        rintro e w14 ⟨rfl, OX14, g14⟩
        have IX : In w4.heap.size (w4.heap.size + 1) (.slice (some ⟨w4.heap.size, 0, none⟩) xs.length xs.length) := full_in
        have IY : In w5.heap.size (w5.heap.size + 1) (.slice (some ⟨w5.heap.size, 0, none⟩) ys.length ys.length) := full_in
        have s14 := g14.size
        have OW := own_grown' OW IW g14 IX (.inr (by omega))
        have OG := own_grown' OG IG g14 IX (.inl (by omega))
        have OY := own_grown' OY IY g14 IX (.inl (by omega))
        have T14 := lawAt_grown T13 g14 IX (.inl (by omega))
        have B14 := below_own B13 g14 IX (by omega) (by omega)
        clear B13 g14 OX OX14 T13
        go_wp2_with fail
        refine (markInt64S_any OY hl2 (1 + (xs.length : Int)) (by omega) (by omega)).mono ?_
        rintro e w15 ⟨rfl, OY15, g15⟩
        have s15 := g15.size
        have OW := own_grown' OW IW g15 IY (.inr (by omega))
        have OG := own_grown' OG IG g15 IY (.inl (by omega))
        have T15 := lawAt_grown T14 g15 IY (.inl (by omega))
        have B15 := below_own B14 g15 IY (by omega) (by omega)
        clear B14 g15 OY OY15 T14
        go_wp2_with fail
        refine (eqInt64S_same (own_ints OG) (own_ints OW) hyl).mono ?_
        rintro e w16 ⟨rfl, q16, rfl⟩
        have OW := own_drewN (n := q16) OW
        have OG := own_drewN (n := q16) OG
        have T16 : LawAt (w15.drewN q16) w.heap.size s f c g p m := T15
        have B16 := rows.below_drewN (n := q16) B15
        clear B15 T15
        generalize hw16 : w15.drewN q16 = w16 at *
        have s16 : w15.heap.size = w16.heap.size := by rw [← hw16]; rfl
        clear hw16
        go_wp2_with fail
        refine (markInt64S_any OG hyl 1 (by omega) (by omega)).mono ?_
        rintro e w17 ⟨rfl, OG, g17⟩
        have s17 := g17.size
        have OW := own_grown' OW IW g17 IG (.inr (by omega))
        have T17 := lawAt_grown T16 g17 IG (.inl (by omega))
        have B17 := below_own B16 g17 IG (by omega) (by omega)
        clear B16 g17 T16
        go_wp2_with fail
        refine (heldInt64S_any 1 (own_ints OG) hyl (by omega) (by omega)).mono ?_
        rintro e w18 ⟨rfl, hw⟩
        rw [hw]
        clear hw w18
        obtain ⟨t0, t1, t2, t3, t4, t5⟩ := lawAt_cells T17
        have BL : Below w.heap.size w w17.drew := B17.drew
        have TL : LawAt w17.drew w.heap.size s f c g p m := T17
        have OW : Own w17.drew _ vW ws := OW
        have OG : Own w17.drew _ vG _ := OG
        have sL : w.heap.size ≤ w17.drew.heap.size := BL.size
        clear B17 T17
        go_wp2_with fail
        go_region_law (first
          | (go_simp; go_at_call 10; refine (R1 _ BL).mono ?_; clear R1; rintro e x1 ⟨rfl, F1, b1⟩; have z1 := lt_of_block F1; have O1 := full_own F1 (Nat.le_refl _) (show xs.length ≤ maxLen by unfold maxLen; omega); have BL1 := BL.trans (b1.mono (by omega)); have TL1 := lawAt_below TL b1; have OW1 := own_below OW b1; have OG1 := own_below OG b1; obtain ⟨u0, u1, u2, u3, u4, u5⟩ := lawAt_cells TL1; clear b1 F1)
          | (go_simp; go_at_call 25; refine (toHead_below s f c g p m _).mono ?_; rintro e x2 ⟨rfl, b2⟩; have z2 := b2.size; have O2 := own_below O1 b2; have BL2 := BL1.trans (b2.mono (by omega)); have OW2 := own_below OW1 b2; have OG2 := own_below OG1 b2; clear b2)
          | (go_simp; go_at_call 10; refine (R2 _ BL2).mono ?_; clear R2; rintro e x3 ⟨rfl, F3, b3⟩; have z3 := lt_of_block F3; have O3 := own_below O2 b3; have Q3 := full_own F3 (Nat.le_refl _) (show ys.length ≤ maxLen by unfold maxLen; omega); have BL3 := BL2.trans (b3.mono (by omega)); have OW3 := own_below OW2 b3; have OG3 := own_below OG2 b3; clear b3 F3)
          | (go_simp; go_at_call 26; refine (IMPL _ _ _ (own_ints O3) (own_ints Q3)).mono ?_; rintro e x4 ⟨vH, rfl, OH, b4⟩; have z4 := b4.size; have BL4 := BL3.trans (b4.mono (by omega)); have OW4 := own_below OW3 b4; have OG4 := own_below OG3 b4; clear b4 O1 O2 O3 Q3 BL1 BL2 BL3 TL1 u0 u1 u2 u3 u4 u5))
        all_goals
          go_wp2_with fail
          refine (eqInt64S_same (own_ints OH) (own_ints OW4) hyl).mono ?_
          rintro e x5 ⟨rfl, q5, rfl⟩
          have OG5 := own_drewN (n := q5) OG4
          have B5 := rows.below_drewN (n := q5) BL4
          clear BL4 OW4 OH OG4
          go_wp2_with fail
          refine (heldInt64S_any (w := x4.drewN q5) 1 (own_ints OG5) hyl (by omega) (by omega)).mono ?_
          rintro e x6 ⟨rfl, hw⟩
          rw [hw]
          clear hw x6
          go_wp2
          go_ret
          exact ⟨rfl, B5⟩
    · have hl2' : (ys.length : Int) > 1048576 := by omega
      go_enter Try.func8, Try.ntmps8
      go_wp2
      go_ret
      exact ⟨rfl, (Below.refl _ _).alloc (Nat.le_refl _) _⟩
  · have hl' : (xs.length : Int) > 1048576 := by omega
    go_enter Try.func8, Try.ntmps8
    go_wp2
    go_ret
    exact ⟨rfl, (Below.refl _ _).alloc (Nat.le_refl _) _⟩
end Go.Proofs.Ytdogibjgogcdkai.walks
