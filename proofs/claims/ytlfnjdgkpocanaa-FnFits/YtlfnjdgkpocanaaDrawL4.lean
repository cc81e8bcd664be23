/-
  The draws of chapter 4: a row of chunks.
  Made from the template DrawL4.
-/
import Derived.Test.YtlfnjdgkpocanaaDrawChunks
import Derived.Test.YtlfnjdgkpocanaaM1
import Derived.Test.YtlfnjdgkpocanaaWalkS2
import Derived.Deep.RegionLaw
namespace Go.Proofs.Ytlfnjdgkpocanaa.draw
open Go.RowKit rows heads words walks
set_option maxRecDepth 100000

theorem grownBy_below {w wr w' : World} {r : Option Nat} (h : w.grownBy wr r) (hb : Below w.heap.size wr w') : w.grownBy w' r :=
  ⟨hb.os.trans h.os, hb.tape.trans h.tape, hb.output.trans h.output, Nat.le_trans h.size hb.size, fun k hk hne => (hb.block k hk).trans (h.block k hk hne)⟩
theorem cur_below {base : Nat} {w w' : World} {bk : Nat} {a : Option Addr} {len cap : Nat} (h : Cur w bk a len cap) (hb : Below base w w') (hl : bk < base) : Cur w' bk a len cap := by
  obtain ⟨i, g, hB, hi⟩ := h
  exact ⟨i, g, (hb.block bk hl).trans hB, hi⟩
/-- What is owned and not empty, as the walk reads it. -/
theorem own_slice {w : World} {base : Nat} {v : Value} {xs : List Int} (h : rows.Own w base v xs) (hp : 0 < xs.length) : ∃ g cap, v = .slice (some ⟨g, 0, none⟩) xs.length cap ∧ base ≤ g ∧ g < w.heap.size := by
  have h' := h
  obtain ⟨_, ⟨_, hn⟩ | ⟨g, cap, cur, rfl, hg, hh, _⟩⟩ := h
  · omega
  · exact ⟨g, cap, rfl, hg, lt_of_block hh⟩

theorem rowCur {w w' : World} {base bk n : Nat} {v : Value} {cs : List Value} (h : w.ownsRow base 2 1 v n cs) (hb : bk < base) (hg : w.grownBy w' (some bk)) : w'.ownsRow base 2 1 v n cs := by
  refine World.ownsRow.kept h hg ?_
  cases e : v.ownBlock with
  | none => exact .inl rfl
  | some k => have := World.ownsRow.lt h k e; exact .inr (fun e' => by injection e' with e'; omega)
theorem headAt_own {w w' : World} {b lo hi : Nat} {u : Value} {s f c h : Int} {p m : Bool} (T : HeadAt w b s f c h p m) (hg : w.grownBy w' u.ownBlock) (i : ∀ k, u.ownBlock = some k → lo ≤ k ∧ k < hi) (hne : hi ≤ b) : HeadAt w' b s f c h p m :=
  (hg.block b (lt_of_block T) (fun e => by have := i b e.symm; omega)).trans T

set_option maxRecDepth 100000 in
set_option maxHeartbeats 16000000 in
theorem l4Draw_any {W w : World} {bk : Nat} {a : Option Addr} {len cap : Nat} {zs : List Int} (hr : IsRow .u8 W a len cap zs) (hW : Below W.heap.size W w) (hbk : W.heap.size ≤ bk) (hc : Cur w bk a len cap) :
    Calls Try.prog 18 #[.pointer (some ⟨bk, 0, none⟩)] w fun e w' => ∃ (v : Value) (xs : List Int), xs.length ≤ 100 ∧ AllI xs ∧ e = .returned v ∧ rows.Own w' w.heap.size v xs ∧ w.grownBy w' (some bk) ∧ Cur w' bk a len cap := by
  have step : ∀ {w' : World}, w.grownBy w' (some bk) → Below W.heap.size W w' := fun hg => hW.grown hg hW.size (fun k e => by cases e; exact hbk)
  obtain ⟨i0, hi, hz0, hz1, hz2⟩ := info_parts info
  have lbk := cur_lt hc
  have OWN := own_nothing w w.heap.size (Nat.le_refl _)
  go_enter Try.func18, Try.ntmps18
  go_wp2_with fail
  refine (below_any 7 hr (step (grownBy_alloc (grownBy_refl _ _) _)) hbk (cur_alloc hc _)).mono ?_
  rintro e w1 ⟨n, hn0, _, hn1, rfl, hg1, hc1⟩
  have hn2 := hn1 (by decide)
  clear hn1
  have O1 : rows.Own w1 w.heap.size (.slice (some ⟨w.heap.size, 0, none⟩) 0 0) [] := own_cur OWN lbk hg1
  have hg1 := grownBy_trans (grownBy_alloc (grownBy_refl _ _) _) hg1
  obtain ⟨N, rfl⟩ := Int.eq_ofNat_of_zero_le hn0
  clear OWN hn0
  go_wp2_with fail
  go_loopw [3, 4] (fun v i wr => ∃ (k : Nat) (xs : List Int) (v3 : Value), v3 = v ∧ k ≤ 6 ∧ xs.length + 10 * k ≤ 60 ∧ AllI xs ∧ i = .int .i64 (k : Int) ∧ rows.Own wr w.heap.size v xs ∧ w.grownBy wr (some bk) ∧ Cur wr bk a len cap) (fun _ i _ => (intOf i).toNat)
  case atStart => exact ⟨N, [], _, rfl, by omega, by simp; omega, allI_nil, rfl, O1, hg1, hc1⟩
  case round =>
    obtain ⟨k, xs, v3, rfl, hk, hx, ha, rfl, Or, Gr, Cr⟩ := hrel
    clear O1 hg1 hc1 hn2
    by_cases hlt : 0 < k
    · have hlt' : (k : Int) > 0 := by omega
      obtain ⟨av, capv, rfl, hlc, hcm, _, _⟩ := own_ints Or
      go_wp2_with fail
      refine (once_any 4 hr (step Gr) hbk Cr).mono ?_
      rintro e w1 ⟨b1, rfl, hg1, hc1⟩
      have O1 := own_cur Or lbk hg1
      have G1 := grownBy_trans Gr hg1
      clear hg1 Or Gr Cr
      cases b1
      · go_wp2_with fail
        refine (l2Draw_right hr (step G1) hbk hc1).mono ?_
        rintro e w2 ⟨s, f, c, h, p, m, hD, rfl, hg2, hc2⟩
        obtain ⟨hok0, s0, s5, rfl, hff⟩ := hD
        have O2 := own_cur O1 lbk hg2
        have I2 := own_lt O2
        have s2 : w.heap.size ≤ w2.heap.size := (grownBy_trans G1 hg2).size
        have O2 := own_below O2 ((Below.refl _ _).alloc (Nat.le_refl _) (hb s f c h p false))
        have G2 := grownBy_alloc (grownBy_trans G1 hg2) (hb s f c h p false)
        have C2 := cur_alloc hc2 (hb s f c h p false)
        have T2 := headAt_new w2 s f c h p false
        have sX : w2.heap.size + 1 ≤ (w2.alloc (hb s f c h p false)).heap.size := by simp
        clear hg2 O1 G1 hc1 hc2
        go_wp2_with fail
        generalize (w2.alloc (Obj.cells #[.int .i64 s, .int .i64 f, .int .i64 c, .int .i64 h, .bool p, .bool false] 53)) = X2 at *
        refine (l2Size_any _ _ s0 (by omega)).mono ?_
        rintro e w2' ⟨rfl, hw2⟩
        rw [hw2]
        clear hw2 w2'
        have hz := sz_bounds s0 (show s ≤ 20 by omega)
        obtain ⟨n, hn⟩ := Int.eq_ofNat_of_zero_le (show 0 ≤ sz s by omega)
        rw [hn] at hz ⊢
        have sz2 := G2.size
        obtain ⟨t0, t1, t2, t3, t4, t5, _⟩ := headAt_cells T2
        have I2' : ∀ j, (Value.slice av xs.length capv).ownBlock = some j → w.heap.size ≤ j ∧ j < X2.heap.size := fun j e => ⟨(I2 j e).1, by have := (I2 j e).2; omega⟩
        have hxl : (xs ++ List.replicate n (0 : Int)).length = xs.length + n := by simp
        by_cases f7 : f = 7
        · subst f7
          go_wp2_with (at_builtin; refine wpList_zeros O2 n (by omega) (by omega) (by omega) sz2 rfl _ _ rfl (by simp [Act.eval]) (by simp [Act.eval]) ?_; intro v' w3 O3 hgrow; have T3 := headAt_own T2 hgrow I2 (Nat.le_refl _); obtain ⟨u0, u1, u2, u3, u4, u5, _⟩ := headAt_cells T3)
          have G3 := grownBy_own G2 hgrow I2'
          have C3 := cur_own C2 hgrow I2' lbk
          obtain ⟨g, cap', rfl, hg, hgl⟩ := own_slice O3 (by rw [hxl]; omega)
          have s3 := G3.size
          have GD : w.grownBy w3.drew (some bk) := grownBy_drew G3
          have CD : Cur w3.drew bk a len cap := C3
          unfold rows.Own at O3
          rw [hxl] at O3 ⊢
          have OD : w3.drew.ownsRow w.heap.size 2 1 (.slice (some ⟨g, 0, none⟩) (xs.length + n) cap') (xs.length + n) (cellsOf (xs ++ List.replicate n 0)) := O3
          have TD : HeadAt w3.drew w2.heap.size s 7 c h p false := T3
          have HAD : Hid (AllI (xs ++ List.replicate n (0 : Int))) := allI_append ha (allI_replicate n ⟨by decide, by decide⟩)
          have bne : w2.heap.size ≠ bk := by omega
          clear O3 hgrow G3 C3 O2 G2 C2 I2 I2' t0 t1 t2 t3 t4 t5 T2 T3
          go_region_law (first
            | (go_simp; go_at_call 21; refine (below_any 30 hr (step GD) hbk CD).mono ?_; rintro e w4 ⟨x, x0, _, x1, rfl, hg4, hc4⟩; have x2 := x1 (by decide); have O4 := rowCur OD lbk hg4; have G4 := grownBy_trans GD hg4; have TE := headAt_grown TD hg4 bne; obtain ⟨v0, v1, v2, v3, v4, v5, _⟩ := headAt_cells TE; clear x1 hg4)
            | (go_simp; go_at_call 36; refine (l4Note_any O4 hxl HAD.out (by omega) hg G4.size s x s0 (by omega) x0 (by omega) hn (Nat.le_refl _)).mono ?_; rintro e w5 ⟨⟨u, rfl⟩, ⟨xs', hl', ha', O5⟩, B5⟩; have O6 := own_row O5 hl'; have G5 := grownBy_below G4 B5; have C5 := cur_below hc4 B5 lbk; clear O5 B5 O4 G4 hc4 TE v0 v1 v2 v3 v4 v5))
          all_goals go_wp2
          all_goals go_roundw
          all_goals first | exact ⟨k - 1, xs', _, rfl, by omega, by omega, ha', by go_num, O6, G5, C5⟩ | (simp [intOf]; omega)
        · have f7' : (f == 7) = false := by simpa using f7
          go_wp2_with (at_builtin; refine wpList_zeros O2 n (by omega) (by omega) (by omega) sz2 rfl _ _ rfl (by simp [Act.eval]) (by simp [Act.eval]) ?_; intro v' w3 O3 hgrow; have T3 := headAt_own T2 hgrow I2 (Nat.le_refl _); obtain ⟨u0, u1, u2, u3, u4, u5, _⟩ := headAt_cells T3)
          have G3 := grownBy_own G2 hgrow I2'
          have C3 := cur_own C2 hgrow I2' lbk
          obtain ⟨g, cap', rfl, hg, hgl⟩ := own_slice O3 (by rw [hxl]; omega)
          have s3 := G3.size
          have s3' := hgrow.size
          unfold rows.Own at O3
          rw [hxl] at O3 ⊢
          have HAD : Hid (AllI (xs ++ List.replicate n (0 : Int))) := allI_append ha (allI_replicate n ⟨by decide, by decide⟩)
          have bne : w2.heap.size ≠ bk := by omega
          have T3' := T3
          clear hgrow O2 G2 C2 I2 I2' t0 t1 t2 t3 t4 t5 T2 u0 u1 u2 u3 u4 u5 T3
          go_loopw [8, 9] (fun sv kv wr => ∃ (q : Nat) (ys : List Int) (v4 : Value), v4 = sv ∧ (q : Int) ≤ s ∧ ys.length = q ∧ AllI ys ∧ kv = .int .i64 (q : Int) ∧ rows.Own wr w3.heap.size sv ys ∧ w3.grownBy wr (some bk) ∧ Cur wr bk a len cap) (fun _ kv _ => s.toNat - (intOf kv).toNat)
          case atStart => exact ⟨0, [], _, rfl, by omega, rfl, allI_nil, rfl, own_nothing w3 _ (Nat.le_refl _), grownBy_alloc (grownBy_refl _ _) _, cur_alloc C3 _⟩
          case round =>
            obtain ⟨q, ys, v4, rfl, hq, hyl, hya, rfl, Os, Gs, Cs⟩ := hrel
            have TE := headAt_grown T3' Gs bne
            have ss := Gs.size
            obtain ⟨t0, t1, t2, t3, t4, t5, _⟩ := headAt_cells TE
            have lb3 : bk < w3.heap.size := by omega
            by_cases hqs : (q : Int) < s
            · go_wp2_with fail
              clear t0 t1 t2 t3 t4 t5 TE
              refine (below_any 9 hr (step (grownBy_trans G3 Gs)) hbk Cs).mono ?_
              rintro e w4 ⟨x, x0, _, x1, rfl, hg4, hc4⟩
              have x2 := x1 (by decide)
              clear x1
              have Os := own_cur Os lb3 hg4
              have Gs := grownBy_trans Gs hg4
              clear hg4 Cs
              go_wp2_with fail
              refine (sOfInt_yes x (by omega) (by omega) _).mono ?_
              rintro e w4' ⟨rfl, hw⟩
              rw [hw]
              clear hw w4'
              go_wp2_with fail
              refine (below_any 30 hr (step (grownBy_trans G3 Gs)) hbk hc4).mono ?_
              rintro e w5 ⟨y, y0, _, y1, rfl, hg5, hc5⟩
              have y2 := y1 (by decide)
              clear y1
              have Os := own_cur Os lb3 hg5
              have Gs := grownBy_trans Gs hg5
              clear hg5 hc4
              go_wp2_with fail
              refine (sOfAddr_yes y (by omega) (by omega) _).mono ?_
              rintro e w5' ⟨rfl, hw⟩
              rw [hw]
              clear hw w5'
              go_wp2_with fail
              refine (below_any 3 hr (step (grownBy_trans G3 (grownBy_alloc Gs _))) hbk (cur_alloc hc5 _)).mono ?_
              rintro e w6 ⟨z, z0, _, z1, rfl, hg6, hc6⟩
              have z2 := z1 (by decide)
              clear z1
              obtain ⟨j, rfl⟩ := Int.eq_ofNat_of_zero_le z0
              have hj : j < 3 := by omega
              have hcell : ∃ u : Int, I64 u ∧ w6.cell? ⟨w5.heap.size, j, none⟩ = some (.int .i64 u) := by
                have hlt := cur_lt hc5
                obtain rfl | rfl | rfl : j = 0 ∨ j = 1 ∨ j = 2 := by omega
                · exact ⟨2, ⟨by decide, by decide⟩, lit_cell hg6 hlt rfl⟩
                · exact ⟨4 * x + 1, ⟨by omega, by omega⟩, lit_cell hg6 hlt rfl⟩
                · exact ⟨4 * y + 4, ⟨by omega, by omega⟩, lit_cell hg6 hlt rfl⟩
              have Os := own_cur (own_below Os ((Below.refl _ _).alloc (Nat.le_refl _) _)) lb3 hg6
              have Gs := grownBy_trans (grownBy_alloc Gs _) hg6
              obtain ⟨u, hu, hcu⟩ := hcell
              clear hg6 hc5 z0
              have Is := own_lt Os
              have s6 := Gs.size
              have NEWS : ∀ j' u', [Value.int .i64 u][j']? = some u' → (w6.alloc (.cells #[.int .i64 u] 2)).cell? ((⟨w6.heap.size, 0, none⟩ : Addr).add j') = some u' := by
                intro j' u' hj'
                match j', hj' with
                | 0, hj' => simp at hj'; subst hj'; simp [Addr.add]
              go_wp2_with (at_builtin; refine wpList_append_own _ rfl _ _ 24 rfl w3.heap.size 2 i0 (.int .i64 0) 1 8 Try.underlying24 hi hz0 hz1 hz2 rfl (by decide) v4 ys.length (cellsOf ys) rfl (World.ownsRow.alloc Os _) ⟨w6.heap.size, 0, none⟩ 1 1 [.int .i64 u] rfl rfl NEWS (ints_oneCell .i64 [u]) (by unfold maxLen; omega) (by omega) (by simp; omega) ?_; intro v5 w7 hown hgrow _)
              have O7 : rows.Own w7 w3.heap.size v5 (ys ++ [u]) := own_row3 hown
              have G7 := grownBy_own (grownBy_alloc Gs _) hgrow Is
              have C7 := cur_own (cur_alloc hc6 _) hgrow Is lb3
              clear hown hgrow Os Is Gs hc6 NEWS hcu
              go_wp2
              go_roundw
              case rel => exact ⟨q + 1, ys ++ [u], v5, rfl, by omega, by simp; omega, allI_append hya (allI_one hu), by go_num, O7, G7, C7⟩
              case measure => simp [intOf]; omega
            · have hqs' : (q : Int) = s := by omega
              have HQ : Hid _ := hqs'
              clear hqs'
              go_wp2_with fail
              clear t0 t1 t2 t3 t4 t5 TE
              have O8 := rowCur O3 lbk Gs
              have G8 := grownBy_trans G3 Gs
              refine (l4Write_any O8 hxl (by omega) (by omega) (fun W' hW' => ?_) hok0 (by rw [hyl]; exact HQ.out) n hn (Nat.le_refl _)).mono ?_
              · exact own_ints (World.ownsRow.kept Os hW' (by
                  cases e : v4.ownBlock with
                  | none => exact .inl rfl
                  | some j => have := own_lt Os j e; exact .inr (fun e' => by injection e' with e'; omega)))
              rintro e w9 ⟨⟨u, rfl⟩, O9, G9⟩
              have G10 : w.grownBy w9 (some bk) := grownBy_below G8 ((Below.refl _ _).grown G9 (by omega) (fun j e => by cases e; exact hg))
              have C10 : Cur w9 bk a len cap := cur_below Cs ((Below.refl w.heap.size _).grown G9 (by omega) (fun j e => by cases e; exact hg)) lbk
              have hpl : (put (xs ++ List.replicate n 0) xs.length (pk s f c h p false) ys ys.length n).length = xs.length + n := by rw [put_length (by rw [hxl]; omega) (Nat.le_refl _) (by have := HQ.out; omega), hxl]
              have O10 := own_row O9 hpl
              have HA9 : Hid _ := allI_put HAD.out hya (pk_i64 hok0) xs.length ys.length n
              clear O9 G9 O8 G8
              go_wp2
              go_roundw
              case rel => exact ⟨k - 1, _, _, rfl, by omega, by rw [hpl]; omega, HA9.out, by go_num, O10, G10, C10⟩
              case measure => simp [intOf]; omega
      · go_wp2_with fail
        refine (below_any 5 hr (step G1) hbk hc1).mono ?_
        rintro e w2 ⟨y, hy0, _, hy1, rfl, hg2, hc2⟩
        have hy2 := hy1 (by decide)
        clear hy1
        have O2 := own_cur O1 lbk hg2
        have G2 := grownBy_trans G1 hg2
        clear hg2 O1 G1 hc1
        obtain ⟨n, hn⟩ := Int.eq_ofNat_of_zero_le (show 0 ≤ 2 + 2 * y by omega)
        have hn1 : 2 ≤ n ∧ n ≤ 10 := by omega
        have sz2 := G2.size
        have I2 := own_lt O2
        go_wp2_with (at_builtin; refine wpList_zeros O2 n (by omega) (by omega) (by omega) sz2 rfl _ _ rfl (by simp [Act.eval]) (by simp [Act.eval]) ?_; intro v' w3 O3 hgrow)
        have G3 := grownBy_own G2 hgrow I2
        have C3 := cur_own hc2 hgrow I2 lbk
        have hxl : (xs ++ List.replicate n (0 : Int)).length = xs.length + n := by simp
        obtain ⟨g, cap', rfl, hg, hgl⟩ := own_slice O3 (by rw [hxl]; omega)
        unfold rows.Own at O3
        rw [hxl] at O3 ⊢
        refine (l4Free_any O3 hxl (allI_append ha (allI_replicate n ⟨by decide, by decide⟩)) (by omega) hg G3.size hn1.1 (Nat.le_refl _)).mono ?_
        rintro e w4 ⟨⟨u, rfl⟩, ⟨xs', hl', ha', O4⟩, B4⟩
        have O5 := own_row O4 hl'
        have G4 := grownBy_below G3 B4
        have C4 := cur_below C3 B4 lbk
        clear O4 B4 O3 hgrow G3 C3 O2 G2 hc2 I2
        go_wp2
        go_roundw
        case rel => exact ⟨k - 1, xs', _, rfl, by omega, by omega, ha', by go_num, O5, G4, C4⟩
        case measure => simp [intOf]; omega
    · have hlt' : ¬ (k : Int) > 0 := by omega
      obtain ⟨av, capv, rfl, hlc, hcm, _, _⟩ := own_ints Or
      go_wp2_with fail
      refine (once_any 10 hr (step Gr) hbk Cr).mono ?_
      rintro e w1 ⟨b1, rfl, hg1, hc1⟩
      have O1 := own_cur Or lbk hg1
      have G1 := grownBy_trans Gr hg1
      clear hg1 Or Gr Cr
      cases b1
      · go_wp2_with fail
        refine (once_any 12 hr (step G1) hbk hc1).mono ?_
        rintro e wt ⟨bt, rfl, hgt, hct⟩
        have O8 := own_cur O1 lbk hgt
        have G8 := grownBy_trans G1 hgt
        have I8 := own_lt O8
        have s8 := G8.size
        clear hgt O1 G1 hc1
        cases bt
        · go_wp2
          go_ret
          exact ⟨_, xs, by omega, ha, rfl, O8, G8, hct⟩
        · have NEWS : ∀ j' u', [Value.int .i64 0][j']? = some u' → (wt.alloc (.cells #[.int .i64 0] 2)).cell? ((⟨wt.heap.size, 0, none⟩ : Addr).add j') = some u' := by
            intro j' u' hj'
            match j', hj' with
            | 0, hj' => simp at hj'; subst hj'; simp [Addr.add]
          go_wp2_with (at_builtin; refine wpList_append_own _ rfl _ _ 24 rfl w.heap.size 2 i0 (.int .i64 0) 1 8 Try.underlying24 hi hz0 hz1 hz2 rfl (by decide) (.slice av xs.length capv) _ _ rfl (World.ownsRow.alloc O8 _) ⟨wt.heap.size, 0, none⟩ 1 1 [.int .i64 0] rfl rfl NEWS (ints_oneCell .i64 [0]) (by unfold maxLen; omega) (by omega) (by simp; omega) ?_; intro v5 w7 hown hgrow _)
          have O9 : rows.Own w7 w.heap.size v5 (xs ++ [0]) := own_row3 hown
          have G9 := grownBy_own (grownBy_alloc G8 _) hgrow I8
          have C9 := cur_own (cur_alloc hct _) hgrow I8 lbk
          clear hown hgrow O8 G8 hct NEWS I8
          go_wp2
          go_ret
          exact ⟨_, _, by rw [List.length_append]; simp only [List.length_singleton]; omega, allI_append ha (allI_one ⟨by decide, by decide⟩), rfl, O9, G9, C9⟩
      · by_cases hp : 0 < xs.length
        · have hp' : (xs.length : Int) > 0 := by omega
          obtain ⟨g, cap', ev, hg, hgl⟩ := own_slice O1 hp
          rw [ev] at O1 ⊢
          injection ev with ev1 ev2 ev3
          subst ev1 ev3
          go_wp2_with fail
          refine (below_any xs.length hr (step G1) hbk hc1).mono ?_
          rintro e w2 ⟨y, y0, _, y1, rfl, hg2, hc2⟩
          have y2 := y1 hp'
          clear y1
          obtain ⟨j, rfl⟩ := Int.eq_ofNat_of_zero_le y0
          have O2 := own_cur O1 lbk hg2
          have G2 := grownBy_trans G1 hg2
          clear hg2 O1 G1 hc1
          go_wp2_with fail
          refine (one_any hr (step G2) hbk hc2).mono ?_
          rintro e w3 ⟨x, x0, x1, rfl, hg3, hc3⟩
          have O3 := own_cur O2 lbk hg3
          have G3 := grownBy_trans G2 hg3
          clear hg3 O2 G2 hc2
          have c0 := World.ownsRow.cellAt O3 j (by omega)
          have c1 := World.ownsRow.frozenAt O3 j
          have S := (World.ownsRow.stored O3 j (.int .i64 x)).1
          have e1 : (cellsOf xs).set j (.int .i64 x) = cellsOf (xs.set j x) := by simp [cellsOf, List.map_set]
          rw [e1] at S
          have OT : rows.Own (w3.setCell ⟨g, j, none⟩ (.int .i64 x)) w.heap.size (.slice (some ⟨g, 0, none⟩) xs.length capv) (xs.set j x) := own_row S (by simp)
          have GT := grownBy_setCell_new (p := ⟨g, j, none⟩) G3 hg (.int .i64 x)
          have CT := cur_setCell (p := ⟨g, j, none⟩) hc3 (show bk ≠ g by omega) (.int .i64 x)
          have HAY : Hid (AllI (xs.set j x)) := allI_set ha j ⟨x0, x1⟩
          have hsl : (xs.set j x).length = xs.length := by simp
          obtain ⟨y, hy'⟩ : ∃ y, (cellsOf xs)[j]? = some y := ⟨_, List.getElem?_eq_getElem (by simp; omega)⟩
          rw [hy'] at c0
          clear S e1 hy' O3 G3 hc3 y0
          go_wp2_with fail
          refine (once_any 12 hr (step GT) hbk CT).mono ?_
          rintro e wt ⟨bt, rfl, hgt, hct⟩
          have O8 := own_cur OT lbk hgt
          have G8 := grownBy_trans GT hgt
          have I8 := own_lt O8
          have s8 := G8.size
          clear hgt OT GT CT
          cases bt
          · go_wp2
            go_ret
            exact ⟨_, (xs.set j x), by rw [hsl]; omega, HAY.out, rfl, O8, G8, hct⟩
          · have NEWS : ∀ j' u', [Value.int .i64 0][j']? = some u' → (wt.alloc (.cells #[.int .i64 0] 2)).cell? ((⟨wt.heap.size, 0, none⟩ : Addr).add j') = some u' := by
              intro j' u' hj'
              match j', hj' with
              | 0, hj' => simp at hj'; subst hj'; simp [Addr.add]
            go_wp2_with (at_builtin; refine wpList_append_own _ rfl _ _ 24 rfl w.heap.size 2 i0 (.int .i64 0) 1 8 Try.underlying24 hi hz0 hz1 hz2 rfl (by decide) (.slice (some ⟨g, 0, none⟩) xs.length capv) _ _ rfl (World.ownsRow.alloc O8 _) ⟨wt.heap.size, 0, none⟩ 1 1 [.int .i64 0] rfl rfl NEWS (ints_oneCell .i64 [0]) (by unfold maxLen; rw [hsl]; omega) (by rw [hsl]; omega) (by simp; omega) ?_; intro v5 w7 hown hgrow _)
            have O9 : rows.Own w7 w.heap.size v5 ((xs.set j x) ++ [0]) := own_row3 hown
            have G9 := grownBy_own (grownBy_alloc G8 _) hgrow I8
            have C9 := cur_own (cur_alloc hct _) hgrow I8 lbk
            clear hown hgrow O8 G8 hct NEWS I8
            go_wp2
            go_ret
            exact ⟨_, _, by rw [List.length_append]; simp only [List.length_singleton]; rw [hsl]; omega, allI_append HAY.out (allI_one ⟨by decide, by decide⟩), rfl, O9, G9, C9⟩
        · have hp' : ¬ (xs.length : Int) > 0 := by omega
          go_wp2_with fail
          refine (once_any 12 hr (step G1) hbk hc1).mono ?_
          rintro e wt ⟨bt, rfl, hgt, hct⟩
          have O8 := own_cur O1 lbk hgt
          have G8 := grownBy_trans G1 hgt
          have I8 := own_lt O8
          have s8 := G8.size
          clear hgt O1 G1 hc1
          cases bt
          · go_wp2
            go_ret
            exact ⟨_, xs, by omega, ha, rfl, O8, G8, hct⟩
          · have NEWS : ∀ j' u', [Value.int .i64 0][j']? = some u' → (wt.alloc (.cells #[.int .i64 0] 2)).cell? ((⟨wt.heap.size, 0, none⟩ : Addr).add j') = some u' := by
              intro j' u' hj'
              match j', hj' with
              | 0, hj' => simp at hj'; subst hj'; simp [Addr.add]
            go_wp2_with (at_builtin; refine wpList_append_own _ rfl _ _ 24 rfl w.heap.size 2 i0 (.int .i64 0) 1 8 Try.underlying24 hi hz0 hz1 hz2 rfl (by decide) (.slice av xs.length capv) _ _ rfl (World.ownsRow.alloc O8 _) ⟨wt.heap.size, 0, none⟩ 1 1 [.int .i64 0] rfl rfl NEWS (ints_oneCell .i64 [0]) (by unfold maxLen; omega) (by omega) (by simp; omega) ?_; intro v5 w7 hown hgrow _)
            have O9 : rows.Own w7 w.heap.size v5 (xs ++ [0]) := own_row3 hown
            have G9 := grownBy_own (grownBy_alloc G8 _) hgrow I8
            have C9 := cur_own (cur_alloc hct _) hgrow I8 lbk
            clear hown hgrow O8 G8 hct NEWS I8
            go_wp2
            go_ret
            exact ⟨_, _, by rw [List.length_append]; simp only [List.length_singleton]; omega, allI_append ha (allI_one ⟨by decide, by decide⟩), rfl, O9, G9, C9⟩
end Go.Proofs.Ytlfnjdgkpocanaa.draw
