/-
  The draws of chapter 4: the arguments of PutObject.
  Made from the template DrawPut.
-/
import Derived.Test.YtdogibjgogcdkabDrawWalk1
import Derived.Test.YtdogibjgogcdkabObjS
import Derived.Test.YtdogibjgogcdkabOwnIn
import Derived.Test.YtdogibjgogcdkabDrawHeads2
import Derived.Test.YtdogibjgogcdkabDrawRows3
namespace Go.Proofs.Ytdogibjgogcdkab.draw
open Go.RowKit rows heads words walks
set_option maxRecDepth 100000

theorem headAt_drew {w : World} {b : Nat} {s f c h : Int} {p m : Bool} (T : HeadAt w b s f c h p m) : HeadAt w.drew b s f c h p m := T
theorem own_drew {w : World} {base : Nat} {v : Value} {xs : List Int} (h : Own w base v xs) : Own w.drew base v xs := h
theorem small_i64 {s f c h : Int} (H : Small s f c h) : I64 s ∧ I64 f ∧ I64 c ∧ I64 h := by
  obtain ⟨h1, h2, h3, h4, h5, h6, h7, h8⟩ := H
  exact ⟨⟨by omega, by omega⟩, ⟨by omega, by omega⟩, ⟨by omega, by omega⟩, ⟨by omega, by omega⟩⟩
theorem drawn_small {s f c h : Int} {p m : Bool} (H : Drawn s f c h p m) : Small s f c h := by
  obtain ⟨b1, b2, b3, b4, b5, b6, b7, b8⟩ := hok_true H.1
  exact ⟨by omega, by omega, by omega, by omega, by omega, by omega, by omega, by omega⟩

theorem res_put {fn : Func} {tmps : Array Value} {X : World} {b : Nat} {s f c h : Int} {p m : Bool} {v u x : Value} (hf : fn.results = #[.tmp 2, .tmp 3, .cell 4 26, .tmp 5]) (h2 : tmps[2]? = some v) (h3 : tmps[3]? = some u) (h4 : tmps[4]? = some (.pointer (some ⟨b, 0, none⟩))) (h5 : tmps[5]? = some x) (hX : HeadAt X b s f c h p m) :
    (results fn tmps).run Try.prog X = .ok (.tuple #[v, u, hv s f c h p m, x]) X := by
  obtain ⟨k0, k1, k2, k3, k4, k5, _⟩ := headAt_cells hX
  clear hX
  simp [results, hf, h2, h3, h4, h5, go_sem, k0, k1, k2, k3, k4, k5]

set_option maxRecDepth 100000 in
set_option maxHeartbeats 16000000 in
theorem drawPutObject_any {W w : World} {a : Option Addr} {len cap : Nat} {zs : List Int} (hr : IsRow .u8 W a len cap zs) (hW : Below W.heap.size W w) (hlen : len ≤ 4096) :
    Calls Try.prog 9 #[.slice a len cap] w fun e w' => ∃ (v vs : Value) (xs ys : List Int) (i s f c h : Int) (p m : Bool), xs.length ≤ 100 ∧ ys.length ≤ 100 ∧ AllI xs ∧ AllI ys ∧ I64 i ∧ Small s f c h ∧ e = .returned (.tuple #[v, .int .i64 i, hv s f c h p m, vs]) ∧ Own w' w.heap.size v xs ∧ Own w' w.heap.size vs ys ∧ Below w.heap.size w w' := by
  obtain ⟨i0, hi, hz0, hz1, hz2⟩ := info_parts info
  have B0 : Below w.heap.size w (w.alloc (hb 0 0 0 0 false false)) := (Below.refl _ _).alloc (Nat.le_refl _) _
  have T0 := headAt_new w 0 0 0 0 false false
  have s0 : w.heap.size + 1 ≤ (w.alloc (hb 0 0 0 0 false false)).heap.size := by simp
  go_enter Try.func9, Try.ntmps9
  go_wp2_with fail
  generalize (w.alloc (Obj.cells #[.int .i64 0, .int .i64 0, .int .i64 0, .int .i64 0, .bool false, .bool false] 26)) = X at *
  have hWX : Below W.heap.size W X := hW.trans (B0.mono hW.size)
  refine (new_any hr hWX hlen).mono ?_
  rintro e w1 ⟨rfl, hc1, hs1, hb1⟩
  have hbk : W.heap.size ≤ X.heap.size := hWX.size
  have HS : Hid (w1.heap.size = X.heap.size + 1) := hs1
  have step : ∀ {w' : World}, w1.grownBy w' (some X.heap.size) → Below W.heap.size W w' := fun hg => (hWX.trans (hb1.mono hWX.size)).grown hg (by have := hs1; omega) (fun k e => by cases e; exact hbk)
  have T1 := headAt_below T0 hb1
  have B1 : Below w.heap.size w w1 := B0.trans (hb1.mono (by omega))
  clear hs1 T0
  go_wp2_with fail
  refine (below_any 20 hr (step (grownBy_refl _ _)) hbk hc1).mono ?_
  rintro e w2 ⟨n, n0, _, n1, rfl, hg2, hc2⟩
  have n2 := n1 (by decide)
  clear n1
  obtain ⟨N, rfl⟩ := Int.eq_ofNat_of_zero_le n0
  have sz2 := hg2.size
  go_wp2_with (at_make; refine wpList_make_full _ rfl _ _ 24 rfl w1.heap.size 2 i0 (.int .i64 0) 1 Try.underlying24 hi hz0 hz1 _ _ _ _ N rfl rfl rfl rfl (by rw [hz2]; omega) (by unfold maxLen; omega) sz2 ?_; intro w3 hown hgrow)
  have O3 : Own w3 w1.heap.size (.slice (some ⟨w2.heap.size, 0, none⟩) N N) (List.replicate N 0) := own_row4 hown
  have G3 := grownBy_trans hg2 (grownBy_none hgrow)
  have C3 := cur_none hc2 hgrow
  clear hown hgrow hc2 hg2 n0
  have lbk : X.heap.size < w1.heap.size := by have := HS.out; omega
  refine (below_any 10 hr (step G3) hbk C3).mono ?_
  rintro e w4 ⟨i, ii0, _, ii1, rfl, hg4, hc4⟩
  have ii2 := ii1 (by decide)
  clear ii1
  have O4 := own_cur O3 lbk hg4
  have G4 := grownBy_trans G3 hg4
  clear hg4 O3 G3 C3
  go_wp2_with fail
  refine (l2Draw_right hr (step G4) hbk hc4).mono ?_
  rintro e w5 ⟨s, f, c, h, p, m, hD, rfl, hg5, hc5⟩
  have s25 := (own_lt (own_cur O4 lbk hg5) w2.heap.size rfl).2
  have O5 := own_below (own_cur O4 lbk hg5) ((Below.refl _ _).alloc (Nat.le_refl _) (hb s f c h p m))
  have G5 := grownBy_alloc (grownBy_trans G4 hg5) (hb s f c h p m)
  have sz5 := (grownBy_trans G4 hg5).size
  have C5 := cur_alloc hc5 (hb s f c h p m)
  have T5 := headAt_new w5 s f c h p m
  clear hg5 O4 G4 hc4 hc5
  go_wp2_with fail
  generalize (w5.alloc (Obj.cells #[.int .i64 s, .int .i64 f, .int .i64 c, .int .i64 h, .bool p, .bool m] 26)) = X5 at *
  refine (once_any 6 hr (step G5) hbk C5).mono ?_
  rintro e w6 ⟨b6, rfl, hg6, hc6⟩
  have O6 := own_cur O5 lbk hg6
  have G6 := grownBy_trans G5 hg6
  have T6 := headAt_grown T5 hg6 (by omega)
  clear hg6 O5 G5 C5 T5
  cases b6
  · have HSm : Small s f c h := drawn_small hD
    go_wp2_with fail
    generalize w6 = Y at *
    have OY := O6
    have GY := G6
    have CY := hc6
    have TY := T6
    have lY := G6.size
    have lb3 : X.heap.size < Y.heap.size := by omega
    clear O6 G6 hc6 T6 hD
    obtain ⟨M, hM⟩ : ∃ M, min s 25 = M := ⟨_, rfl⟩
    have hM2 : M ≤ 25 := by omega
    go_loopw [10, 11] (fun sv kv wr => ∃ (q : Nat) (ys : List Int) (v4 : Value), v4 = sv ∧ q ≤ 25 ∧ ys.length = q ∧ AllI ys ∧ kv = .int .i64 (q : Int) ∧ Own wr Y.heap.size sv ys ∧ Y.grownBy wr (some X.heap.size) ∧ Cur wr X.heap.size a len cap) (fun _ kv _ => 25 - (intOf kv).toNat)
    case atStart => exact ⟨0, [], _, rfl, by omega, rfl, allI_nil, rfl, own_nothing' (by omega) (by omega), grownBy_alloc (grownBy_refl _ _) _, cur_alloc CY _⟩
    case round =>
      obtain ⟨q, ys, v4, rfl, hq, hyl, hya, rfl, Os, Gs, Cs⟩ := hrel
      have TE := headAt_grown TY Gs (by omega)
      have ss := Gs.size
      obtain ⟨t0, t1, t2, t3, t4, t5, _⟩ := headAt_cells TE
      by_cases hqs : (q : Int) < M
      · go_wp2_with (go_at_call 56; refine (l1Min_any _ _ _).mono ?_; rintro e wm ⟨rfl, hwm⟩; rw [hwm, hM]; clear hwm wm)
        clear t0 t1 t2 t3 t4 t5 TE
        refine (below_any 9 hr (step (grownBy_trans GY Gs)) hbk Cs).mono ?_
        rintro e w8 ⟨x, x0, _, x1, rfl, hg8, hc8⟩
        have x2 := x1 (by decide)
        clear x1
        have Os := own_cur Os lb3 hg8
        have Gs := grownBy_trans Gs hg8
        clear hg8 Cs
        go_wp2_with fail
        refine (sOfInt_yes x (by omega) (by omega) _).mono ?_
        rintro e w8' ⟨rfl, hw⟩
        rw [hw]
        clear hw w8'
        go_wp2_with fail
        refine (below_any 30 hr (step (grownBy_trans GY Gs)) hbk hc8).mono ?_
        rintro e w9 ⟨y, y0, _, y1, rfl, hg9, hc9⟩
        have y2 := y1 (by decide)
        clear y1
        have Os := own_cur Os lb3 hg9
        have Gs := grownBy_trans Gs hg9
        clear hg9 hc8
        go_wp2_with fail
        refine (sOfAddr_yes y (by omega) (by omega) _).mono ?_
        rintro e w9' ⟨rfl, hw⟩
        rw [hw]
        clear hw w9'
        go_wp2_with fail
        refine (below_any 3 hr (step (grownBy_trans GY (grownBy_alloc Gs _))) hbk (cur_alloc hc9 _)).mono ?_
        rintro e w10 ⟨z, z0, _, z1, rfl, hg10, hc10⟩
        have z2 := z1 (by decide)
        clear z1
        obtain ⟨j, rfl⟩ := Int.eq_ofNat_of_zero_le z0
        have hj : j < 3 := by omega
        have hcell : ∃ u : Int, I64 u ∧ w10.cell? ⟨w9.heap.size, j, none⟩ = some (.int .i64 u) := by
          have hlt := cur_lt hc9
          obtain rfl | rfl | rfl : j = 0 ∨ j = 1 ∨ j = 2 := by omega
          · exact ⟨2, ⟨by decide, by decide⟩, lit_cell hg10 hlt rfl⟩
          · exact ⟨4 * x + 1, ⟨by omega, by omega⟩, lit_cell hg10 hlt rfl⟩
          · exact ⟨4 * y + 4, ⟨by omega, by omega⟩, lit_cell hg10 hlt rfl⟩
        have Os := own_cur (own_below Os ((Below.refl _ _).alloc (Nat.le_refl _) _)) lb3 hg10
        have Gs := grownBy_trans (grownBy_alloc Gs _) hg10
        obtain ⟨u, hu, hcu⟩ := hcell
        clear hg10 hc9 z0
        have Is := own_lt Os
        have s10 := Gs.size
        have NEWS : ∀ j' u', [Value.int .i64 u][j']? = some u' → (w10.alloc (.cells #[.int .i64 u] 2)).cell? ((⟨w10.heap.size, 0, none⟩ : Addr).add j') = some u' := by
          intro j' u' hj'
          match j', hj' with
          | 0, hj' => simp at hj'; subst hj'; simp [Addr.add]
        go_wp2_with (at_builtin; refine wpList_append_own _ rfl _ _ 24 rfl Y.heap.size 2 i0 (.int .i64 0) 1 8 Try.underlying24 hi hz0 hz1 hz2 rfl (by decide) v4 ys.length (cellsOf ys) rfl (World.ownsRow.alloc Os _) ⟨w10.heap.size, 0, none⟩ 1 1 [.int .i64 u] rfl rfl NEWS (ints_oneCell .i64 [u]) (by unfold maxLen; omega) (by omega) (by simp; omega) ?_; intro v5 w11 hown hgrow _)
        have O11 : Own w11 Y.heap.size v5 (ys ++ [u]) := own_row3 hown
        have G11 := grownBy_own (grownBy_alloc Gs _) hgrow Is
        have C11 := cur_own (cur_alloc hc10 _) hgrow Is lb3
        clear hown hgrow Os Is Gs hc10 NEWS hcu
        go_wp2
        go_roundw
        case rel => exact ⟨q + 1, ys ++ [u], v5, rfl, by omega, by simp; omega, allI_append hya (allI_one hu), by go_num, O11, G11, C11⟩
        case measure => simp [intOf]; omega
      · go_wp2_with (go_at_call 56; refine (l1Min_any _ _ _).mono ?_; rintro e wm ⟨rfl, hwm⟩; rw [hwm, hM]; clear hwm wm)
        clear t0 t1 t2 t3 t4 t5 TE
        refine (once_any 12 hr (step (grownBy_trans GY Gs)) hbk Cs).mono ?_
        rintro e w8 ⟨b8, rfl, hg8, hc8⟩
        have Os := own_cur Os lb3 hg8
        have Gs := grownBy_trans Gs hg8
        clear hg8 Cs
        have ss := Gs.size
        cases b8
        · go_wp2_with fail
          refine (once_any 12 hr (step (grownBy_trans GY Gs)) hbk hc8).mono ?_
          rintro e wa ⟨ba, rfl, hga, hca⟩
          have Os := own_cur Os lb3 hga
          have Gs := grownBy_trans Gs hga
          have ss := Gs.size
          clear hga hc8
          cases ba
          · have G := grownBy_trans GY Gs
            have TZ := headAt_grown TY Gs (by omega)
            have RZ := headAt_grown T1 G (by omega)
            obtain ⟨t0, t1, t2, t3, t4, t5, _⟩ := headAt_cells TZ
            obtain ⟨r0, r1, r2, r3, r4, r5, rfz⟩ := headAt_cells RZ
            have OR := own_cur OY lbk Gs
            have BZ : Below w.heap.size w wa := B1.grown G B1.size (fun k e => by cases e; omega)
            clear TZ G Gs
            go_wp2_with fail
            go_region_law (fail)
            all_goals go_wp2
            all_goals exact bodyPost_ret (res_put (v := .slice (some ⟨w2.heap.size, 0, none⟩) N N) (u := .int .i64 i) (x := v4) rfl (by simp [Act.put]) (by simp [Act.put]) (by simp [Act.put]) (by simp [Act.put]) (headAt_drew (six_set RZ s f c h p m))) rfl ⟨.slice (some ⟨w2.heap.size, 0, none⟩) N N, v4, List.replicate N 0, ys, i, s, f, c, h, p, m, by simp; omega, (by omega), allI_replicate N ⟨by decide, by decide⟩, hya, ⟨by omega, by omega⟩, HSm, rfl, own_base (own_drew (own_six OR (by omega) s f c h p m)) (by omega), own_base (own_drew (own_six Os (by omega) s f c h p m)) (by omega), (six_below BZ (Nat.le_refl _) s f c h p m).drew⟩
          · go_wp2_with fail
            refine (l3DrawAt_any hr (step (grownBy_trans GY Gs)) hbk hca).mono ?_
            rintro e wb ⟨x', x0', x1', rfl, hgb, hcb⟩
            have Os := own_cur Os lb3 hgb
            have Gs := grownBy_trans Gs hgb
            clear hgb hca
            have G := grownBy_trans GY Gs
            have TZ := headAt_grown TY Gs (by omega)
            have RZ := headAt_grown T1 G (by omega)
            obtain ⟨t0, t1, t2, t3, t4, t5, _⟩ := headAt_cells TZ
            obtain ⟨r0, r1, r2, r3, r4, r5, rfz⟩ := headAt_cells RZ
            have OR := own_cur OY lbk Gs
            have BZ : Below w.heap.size w wb := B1.grown G B1.size (fun k e => by cases e; omega)
            clear TZ G Gs
            go_wp2_with fail
            go_region_law (fail)
            all_goals go_wp2
            all_goals exact bodyPost_ret (res_put (v := .slice (some ⟨w2.heap.size, 0, none⟩) N N) (u := .int .i64 x') (x := v4) rfl (by simp [Act.put]) (by simp [Act.put]) (by simp [Act.put]) (by simp [Act.put]) (headAt_drew (six_set RZ s f c h p m))) rfl ⟨.slice (some ⟨w2.heap.size, 0, none⟩) N N, v4, List.replicate N 0, ys, x', s, f, c, h, p, m, by simp; omega, (by omega), allI_replicate N ⟨by decide, by decide⟩, hya, ⟨x0', x1'⟩, HSm, rfl, own_base (own_drew (own_six OR (by omega) s f c h p m)) (by omega), own_base (own_drew (own_six Os (by omega) s f c h p m)) (by omega), (six_below BZ (Nat.le_refl _) s f c h p m).drew⟩
        · go_wp2_with fail
          refine (one_any hr (step (grownBy_trans GY Gs)) hbk hc8).mono ?_
          rintro e w9 ⟨x, x0, x1, rfl, hg9, hc9⟩
          have Os := own_cur Os lb3 hg9
          have Gs := grownBy_trans Gs hg9
          clear hg9 hc8
          have Is := own_lt Os
          have s9 := Gs.size
          have NEWS : ∀ j' u', [Value.int .i64 x][j']? = some u' → (w9.alloc (.cells #[.int .i64 x] 2)).cell? ((⟨w9.heap.size, 0, none⟩ : Addr).add j') = some u' := by
            intro j' u' hj'
            match j', hj' with
            | 0, hj' => simp at hj'; subst hj'; simp [Addr.add]
          go_wp2_with (at_builtin; refine wpList_append_own _ rfl _ _ 24 rfl Y.heap.size 2 i0 (.int .i64 0) 1 8 Try.underlying24 hi hz0 hz1 hz2 rfl (by decide) v4 ys.length (cellsOf ys) rfl (World.ownsRow.alloc Os _) ⟨w9.heap.size, 0, none⟩ 1 1 [.int .i64 x] rfl rfl NEWS (ints_oneCell .i64 [x]) (by unfold maxLen; omega) (by omega) (by simp; omega) ?_; intro v5 w11 hown hgrow _)
          have O11 : Own w11 Y.heap.size v5 (ys ++ [x]) := own_row3 hown
          have G11 := grownBy_own (grownBy_alloc Gs _) hgrow Is
          have C11 := cur_own (cur_alloc hc9 _) hgrow Is lb3
          clear hown hgrow Os Is Gs hc9 NEWS
          have Os := O11
          have Gs := G11
          have hyl2 : (ys ++ [x]).length ≤ 26 := by simp; omega
          have hya2 := allI_append hya (allI_one (x := x) ⟨x0, x1⟩)
          clear O11 G11
          go_wp2_with fail
          refine (once_any 12 hr (step (grownBy_trans GY Gs)) hbk C11).mono ?_
          rintro e wa ⟨ba, rfl, hga, hca⟩
          have Os := own_cur Os lb3 hga
          have Gs := grownBy_trans Gs hga
          have ss := Gs.size
          clear hga C11
          cases ba
          · have G := grownBy_trans GY Gs
            have TZ := headAt_grown TY Gs (by omega)
            have RZ := headAt_grown T1 G (by omega)
            obtain ⟨t0, t1, t2, t3, t4, t5, _⟩ := headAt_cells TZ
            obtain ⟨r0, r1, r2, r3, r4, r5, rfz⟩ := headAt_cells RZ
            have OR := own_cur OY lbk Gs
            have BZ : Below w.heap.size w wa := B1.grown G B1.size (fun k e => by cases e; omega)
            clear TZ G Gs
            go_wp2_with fail
            go_region_law (fail)
            all_goals go_wp2
            all_goals exact bodyPost_ret (res_put (v := .slice (some ⟨w2.heap.size, 0, none⟩) N N) (u := .int .i64 i) (x := v5) rfl (by simp [Act.put]) (by simp [Act.put]) (by simp [Act.put]) (by simp [Act.put]) (headAt_drew (six_set RZ s f c h p m))) rfl ⟨.slice (some ⟨w2.heap.size, 0, none⟩) N N, v5, List.replicate N 0, (ys ++ [x]), i, s, f, c, h, p, m, by simp; omega, (by omega), allI_replicate N ⟨by decide, by decide⟩, hya2, ⟨by omega, by omega⟩, HSm, rfl, own_base (own_drew (own_six OR (by omega) s f c h p m)) (by omega), own_base (own_drew (own_six Os (by omega) s f c h p m)) (by omega), (six_below BZ (Nat.le_refl _) s f c h p m).drew⟩
          · go_wp2_with fail
            refine (l3DrawAt_any hr (step (grownBy_trans GY Gs)) hbk hca).mono ?_
            rintro e wb ⟨x', x0', x1', rfl, hgb, hcb⟩
            have Os := own_cur Os lb3 hgb
            have Gs := grownBy_trans Gs hgb
            clear hgb hca
            have G := grownBy_trans GY Gs
            have TZ := headAt_grown TY Gs (by omega)
            have RZ := headAt_grown T1 G (by omega)
            obtain ⟨t0, t1, t2, t3, t4, t5, _⟩ := headAt_cells TZ
            obtain ⟨r0, r1, r2, r3, r4, r5, rfz⟩ := headAt_cells RZ
            have OR := own_cur OY lbk Gs
            have BZ : Below w.heap.size w wb := B1.grown G B1.size (fun k e => by cases e; omega)
            clear TZ G Gs
            go_wp2_with fail
            go_region_law (fail)
            all_goals go_wp2
            all_goals exact bodyPost_ret (res_put (v := .slice (some ⟨w2.heap.size, 0, none⟩) N N) (u := .int .i64 x') (x := v5) rfl (by simp [Act.put]) (by simp [Act.put]) (by simp [Act.put]) (by simp [Act.put]) (headAt_drew (six_set RZ s f c h p m))) rfl ⟨.slice (some ⟨w2.heap.size, 0, none⟩) N N, v5, List.replicate N 0, (ys ++ [x]), x', s, f, c, h, p, m, by simp; omega, (by omega), allI_replicate N ⟨by decide, by decide⟩, hya2, ⟨x0', x1'⟩, HSm, rfl, own_base (own_drew (own_six OR (by omega) s f c h p m)) (by omega), own_base (own_drew (own_six Os (by omega) s f c h p m)) (by omega), (six_below BZ (Nat.le_refl _) s f c h p m).drew⟩
  · go_wp2_with fail
    refine (l2DrawAny_right hr (step G6) hbk hc6).mono ?_
    rintro e w7 ⟨s, f, c, h, p, m, HSm, rfl, hg7, hc7⟩
    have O7 := own_cur O6 lbk hg7
    have G7 := grownBy_trans G6 hg7
    have T7 := headAt_grown T6 hg7 (by omega)
    obtain ⟨k0, k1, k2, k3, k4, k5, kfz⟩ := headAt_cells T7
    obtain ⟨TY, GY, CY⟩ := six_sets T7 G7 hc7 (show w1.heap.size ≤ w5.heap.size by omega) (by omega) s f c h p m
    have OY := own_grown O7 (full_in (b := w2.heap.size)) (grown_set (grown_set (grown_set (grown_set (grown_set (grown_set (World.grownBy.refl w7 (some w5.heap.size)) 0 (.int .i64 s)) 1 (.int .i64 f)) 2 (.int .i64 c)) 3 (.int .i64 h)) 4 (.bool p)) 5 (.bool m)) (.inr (by omega))
    have lY := GY.size
    clear O6 G6 hc6 T6 hD O7 G7 hc7 T7 hg7
    go_wp2_with fail
    clear k0 k1 k2 k3 k4 k5 kfz
    have sY : w7.heap.size ≤ ((((((w7.setCell ⟨w5.heap.size, 0, none⟩ (.int .i64 s)).setCell ⟨w5.heap.size, 1, none⟩ (.int .i64 f)).setCell ⟨w5.heap.size, 2, none⟩ (.int .i64 c)).setCell ⟨w5.heap.size, 3, none⟩ (.int .i64 h)).setCell ⟨w5.heap.size, 4, none⟩ (.bool p)).setCell ⟨w5.heap.size, 5, none⟩ (.bool m)).heap.size ∧ ((((((w7.setCell ⟨w5.heap.size, 0, none⟩ (.int .i64 s)).setCell ⟨w5.heap.size, 1, none⟩ (.int .i64 f)).setCell ⟨w5.heap.size, 2, none⟩ (.int .i64 c)).setCell ⟨w5.heap.size, 3, none⟩ (.int .i64 h)).setCell ⟨w5.heap.size, 4, none⟩ (.bool p)).setCell ⟨w5.heap.size, 5, none⟩ (.bool m)).heap.size ≤ w7.heap.size := by simp
    generalize ((((((w7.setCell ⟨w5.heap.size, 0, none⟩ (.int .i64 s)).setCell ⟨w5.heap.size, 1, none⟩ (.int .i64 f)).setCell ⟨w5.heap.size, 2, none⟩ (.int .i64 c)).setCell ⟨w5.heap.size, 3, none⟩ (.int .i64 h)).setCell ⟨w5.heap.size, 4, none⟩ (.bool p)).setCell ⟨w5.heap.size, 5, none⟩ (.bool m)) = Y at *
    have lb3 : X.heap.size < Y.heap.size := by omega
    obtain ⟨M, hM⟩ : ∃ M, min s 25 = M := ⟨_, rfl⟩
    have hM2 : M ≤ 25 := by omega
    go_loopw [10, 11] (fun sv kv wr => ∃ (q : Nat) (ys : List Int) (v4 : Value), v4 = sv ∧ q ≤ 25 ∧ ys.length = q ∧ AllI ys ∧ kv = .int .i64 (q : Int) ∧ Own wr Y.heap.size sv ys ∧ Y.grownBy wr (some X.heap.size) ∧ Cur wr X.heap.size a len cap) (fun _ kv _ => 25 - (intOf kv).toNat)
    case atStart => exact ⟨0, [], _, rfl, by omega, rfl, allI_nil, rfl, own_nothing' (by omega) (by omega), grownBy_alloc (grownBy_refl _ _) _, cur_alloc CY _⟩
    case round =>
      obtain ⟨q, ys, v4, rfl, hq, hyl, hya, rfl, Os, Gs, Cs⟩ := hrel
      have TE := headAt_grown TY Gs (by omega)
      have ss := Gs.size
      obtain ⟨t0, t1, t2, t3, t4, t5, _⟩ := headAt_cells TE
      by_cases hqs : (q : Int) < M
      · go_wp2_with (go_at_call 56; refine (l1Min_any _ _ _).mono ?_; rintro e wm ⟨rfl, hwm⟩; rw [hwm, hM]; clear hwm wm)
        clear t0 t1 t2 t3 t4 t5 TE
        refine (below_any 9 hr (step (grownBy_trans GY Gs)) hbk Cs).mono ?_
        rintro e w8 ⟨x, x0, _, x1, rfl, hg8, hc8⟩
        have x2 := x1 (by decide)
        clear x1
        have Os := own_cur Os lb3 hg8
        have Gs := grownBy_trans Gs hg8
        clear hg8 Cs
        go_wp2_with fail
        refine (sOfInt_yes x (by omega) (by omega) _).mono ?_
        rintro e w8' ⟨rfl, hw⟩
        rw [hw]
        clear hw w8'
        go_wp2_with fail
        refine (below_any 30 hr (step (grownBy_trans GY Gs)) hbk hc8).mono ?_
        rintro e w9 ⟨y, y0, _, y1, rfl, hg9, hc9⟩
        have y2 := y1 (by decide)
        clear y1
        have Os := own_cur Os lb3 hg9
        have Gs := grownBy_trans Gs hg9
        clear hg9 hc8
        go_wp2_with fail
        refine (sOfAddr_yes y (by omega) (by omega) _).mono ?_
        rintro e w9' ⟨rfl, hw⟩
        rw [hw]
        clear hw w9'
        go_wp2_with fail
        refine (below_any 3 hr (step (grownBy_trans GY (grownBy_alloc Gs _))) hbk (cur_alloc hc9 _)).mono ?_
        rintro e w10 ⟨z, z0, _, z1, rfl, hg10, hc10⟩
        have z2 := z1 (by decide)
        clear z1
        obtain ⟨j, rfl⟩ := Int.eq_ofNat_of_zero_le z0
        have hj : j < 3 := by omega
        have hcell : ∃ u : Int, I64 u ∧ w10.cell? ⟨w9.heap.size, j, none⟩ = some (.int .i64 u) := by
          have hlt := cur_lt hc9
          obtain rfl | rfl | rfl : j = 0 ∨ j = 1 ∨ j = 2 := by omega
          · exact ⟨2, ⟨by decide, by decide⟩, lit_cell hg10 hlt rfl⟩
          · exact ⟨4 * x + 1, ⟨by omega, by omega⟩, lit_cell hg10 hlt rfl⟩
          · exact ⟨4 * y + 4, ⟨by omega, by omega⟩, lit_cell hg10 hlt rfl⟩
        have Os := own_cur (own_below Os ((Below.refl _ _).alloc (Nat.le_refl _) _)) lb3 hg10
        have Gs := grownBy_trans (grownBy_alloc Gs _) hg10
        obtain ⟨u, hu, hcu⟩ := hcell
        clear hg10 hc9 z0
        have Is := own_lt Os
        have s10 := Gs.size
        have NEWS : ∀ j' u', [Value.int .i64 u][j']? = some u' → (w10.alloc (.cells #[.int .i64 u] 2)).cell? ((⟨w10.heap.size, 0, none⟩ : Addr).add j') = some u' := by
          intro j' u' hj'
          match j', hj' with
          | 0, hj' => simp at hj'; subst hj'; simp [Addr.add]
        go_wp2_with (at_builtin; refine wpList_append_own _ rfl _ _ 24 rfl Y.heap.size 2 i0 (.int .i64 0) 1 8 Try.underlying24 hi hz0 hz1 hz2 rfl (by decide) v4 ys.length (cellsOf ys) rfl (World.ownsRow.alloc Os _) ⟨w10.heap.size, 0, none⟩ 1 1 [.int .i64 u] rfl rfl NEWS (ints_oneCell .i64 [u]) (by unfold maxLen; omega) (by omega) (by simp; omega) ?_; intro v5 w11 hown hgrow _)
        have O11 : Own w11 Y.heap.size v5 (ys ++ [u]) := own_row3 hown
        have G11 := grownBy_own (grownBy_alloc Gs _) hgrow Is
        have C11 := cur_own (cur_alloc hc10 _) hgrow Is lb3
        clear hown hgrow Os Is Gs hc10 NEWS hcu
        go_wp2
        go_roundw
        case rel => exact ⟨q + 1, ys ++ [u], v5, rfl, by omega, by simp; omega, allI_append hya (allI_one hu), by go_num, O11, G11, C11⟩
        case measure => simp [intOf]; omega
      · go_wp2_with (go_at_call 56; refine (l1Min_any _ _ _).mono ?_; rintro e wm ⟨rfl, hwm⟩; rw [hwm, hM]; clear hwm wm)
        clear t0 t1 t2 t3 t4 t5 TE
        refine (once_any 12 hr (step (grownBy_trans GY Gs)) hbk Cs).mono ?_
        rintro e w8 ⟨b8, rfl, hg8, hc8⟩
        have Os := own_cur Os lb3 hg8
        have Gs := grownBy_trans Gs hg8
        clear hg8 Cs
        have ss := Gs.size
        cases b8
        · go_wp2_with fail
          refine (once_any 12 hr (step (grownBy_trans GY Gs)) hbk hc8).mono ?_
          rintro e wa ⟨ba, rfl, hga, hca⟩
          have Os := own_cur Os lb3 hga
          have Gs := grownBy_trans Gs hga
          have ss := Gs.size
          clear hga hc8
          cases ba
          · have G := grownBy_trans GY Gs
            have TZ := headAt_grown TY Gs (by omega)
            have RZ := headAt_grown T1 G (by omega)
            obtain ⟨t0, t1, t2, t3, t4, t5, _⟩ := headAt_cells TZ
            obtain ⟨r0, r1, r2, r3, r4, r5, rfz⟩ := headAt_cells RZ
            have OR := own_cur OY lbk Gs
            have BZ : Below w.heap.size w wa := B1.grown G B1.size (fun k e => by cases e; omega)
            clear TZ G Gs
            go_wp2_with fail
            go_region_law (fail)
            all_goals go_wp2
            all_goals exact bodyPost_ret (res_put (v := .slice (some ⟨w2.heap.size, 0, none⟩) N N) (u := .int .i64 i) (x := v4) rfl (by simp [Act.put]) (by simp [Act.put]) (by simp [Act.put]) (by simp [Act.put]) (headAt_drew (six_set RZ s f c h p m))) rfl ⟨.slice (some ⟨w2.heap.size, 0, none⟩) N N, v4, List.replicate N 0, ys, i, s, f, c, h, p, m, by simp; omega, (by omega), allI_replicate N ⟨by decide, by decide⟩, hya, ⟨by omega, by omega⟩, HSm, rfl, own_base (own_drew (own_six OR (by omega) s f c h p m)) (by omega), own_base (own_drew (own_six Os (by omega) s f c h p m)) (by omega), (six_below BZ (Nat.le_refl _) s f c h p m).drew⟩
          · go_wp2_with fail
            refine (l3DrawAt_any hr (step (grownBy_trans GY Gs)) hbk hca).mono ?_
            rintro e wb ⟨x', x0', x1', rfl, hgb, hcb⟩
            have Os := own_cur Os lb3 hgb
            have Gs := grownBy_trans Gs hgb
            clear hgb hca
            have G := grownBy_trans GY Gs
            have TZ := headAt_grown TY Gs (by omega)
            have RZ := headAt_grown T1 G (by omega)
            obtain ⟨t0, t1, t2, t3, t4, t5, _⟩ := headAt_cells TZ
            obtain ⟨r0, r1, r2, r3, r4, r5, rfz⟩ := headAt_cells RZ
            have OR := own_cur OY lbk Gs
            have BZ : Below w.heap.size w wb := B1.grown G B1.size (fun k e => by cases e; omega)
            clear TZ G Gs
            go_wp2_with fail
            go_region_law (fail)
            all_goals go_wp2
            all_goals exact bodyPost_ret (res_put (v := .slice (some ⟨w2.heap.size, 0, none⟩) N N) (u := .int .i64 x') (x := v4) rfl (by simp [Act.put]) (by simp [Act.put]) (by simp [Act.put]) (by simp [Act.put]) (headAt_drew (six_set RZ s f c h p m))) rfl ⟨.slice (some ⟨w2.heap.size, 0, none⟩) N N, v4, List.replicate N 0, ys, x', s, f, c, h, p, m, by simp; omega, (by omega), allI_replicate N ⟨by decide, by decide⟩, hya, ⟨x0', x1'⟩, HSm, rfl, own_base (own_drew (own_six OR (by omega) s f c h p m)) (by omega), own_base (own_drew (own_six Os (by omega) s f c h p m)) (by omega), (six_below BZ (Nat.le_refl _) s f c h p m).drew⟩
        · go_wp2_with fail
          refine (one_any hr (step (grownBy_trans GY Gs)) hbk hc8).mono ?_
          rintro e w9 ⟨x, x0, x1, rfl, hg9, hc9⟩
          have Os := own_cur Os lb3 hg9
          have Gs := grownBy_trans Gs hg9
          clear hg9 hc8
          have Is := own_lt Os
          have s9 := Gs.size
          have NEWS : ∀ j' u', [Value.int .i64 x][j']? = some u' → (w9.alloc (.cells #[.int .i64 x] 2)).cell? ((⟨w9.heap.size, 0, none⟩ : Addr).add j') = some u' := by
            intro j' u' hj'
            match j', hj' with
            | 0, hj' => simp at hj'; subst hj'; simp [Addr.add]
          go_wp2_with (at_builtin; refine wpList_append_own _ rfl _ _ 24 rfl Y.heap.size 2 i0 (.int .i64 0) 1 8 Try.underlying24 hi hz0 hz1 hz2 rfl (by decide) v4 ys.length (cellsOf ys) rfl (World.ownsRow.alloc Os _) ⟨w9.heap.size, 0, none⟩ 1 1 [.int .i64 x] rfl rfl NEWS (ints_oneCell .i64 [x]) (by unfold maxLen; omega) (by omega) (by simp; omega) ?_; intro v5 w11 hown hgrow _)
          have O11 : Own w11 Y.heap.size v5 (ys ++ [x]) := own_row3 hown
          have G11 := grownBy_own (grownBy_alloc Gs _) hgrow Is
          have C11 := cur_own (cur_alloc hc9 _) hgrow Is lb3
          clear hown hgrow Os Is Gs hc9 NEWS
          have Os := O11
          have Gs := G11
          have hyl2 : (ys ++ [x]).length ≤ 26 := by simp; omega
          have hya2 := allI_append hya (allI_one (x := x) ⟨x0, x1⟩)
          clear O11 G11
          go_wp2_with fail
          refine (once_any 12 hr (step (grownBy_trans GY Gs)) hbk C11).mono ?_
          rintro e wa ⟨ba, rfl, hga, hca⟩
          have Os := own_cur Os lb3 hga
          have Gs := grownBy_trans Gs hga
          have ss := Gs.size
          clear hga C11
          cases ba
          · have G := grownBy_trans GY Gs
            have TZ := headAt_grown TY Gs (by omega)
            have RZ := headAt_grown T1 G (by omega)
            obtain ⟨t0, t1, t2, t3, t4, t5, _⟩ := headAt_cells TZ
            obtain ⟨r0, r1, r2, r3, r4, r5, rfz⟩ := headAt_cells RZ
            have OR := own_cur OY lbk Gs
            have BZ : Below w.heap.size w wa := B1.grown G B1.size (fun k e => by cases e; omega)
            clear TZ G Gs
            go_wp2_with fail
            go_region_law (fail)
            all_goals go_wp2
            all_goals exact bodyPost_ret (res_put (v := .slice (some ⟨w2.heap.size, 0, none⟩) N N) (u := .int .i64 i) (x := v5) rfl (by simp [Act.put]) (by simp [Act.put]) (by simp [Act.put]) (by simp [Act.put]) (headAt_drew (six_set RZ s f c h p m))) rfl ⟨.slice (some ⟨w2.heap.size, 0, none⟩) N N, v5, List.replicate N 0, (ys ++ [x]), i, s, f, c, h, p, m, by simp; omega, (by omega), allI_replicate N ⟨by decide, by decide⟩, hya2, ⟨by omega, by omega⟩, HSm, rfl, own_base (own_drew (own_six OR (by omega) s f c h p m)) (by omega), own_base (own_drew (own_six Os (by omega) s f c h p m)) (by omega), (six_below BZ (Nat.le_refl _) s f c h p m).drew⟩
          · go_wp2_with fail
            refine (l3DrawAt_any hr (step (grownBy_trans GY Gs)) hbk hca).mono ?_
            rintro e wb ⟨x', x0', x1', rfl, hgb, hcb⟩
            have Os := own_cur Os lb3 hgb
            have Gs := grownBy_trans Gs hgb
            clear hgb hca
            have G := grownBy_trans GY Gs
            have TZ := headAt_grown TY Gs (by omega)
            have RZ := headAt_grown T1 G (by omega)
            obtain ⟨t0, t1, t2, t3, t4, t5, _⟩ := headAt_cells TZ
            obtain ⟨r0, r1, r2, r3, r4, r5, rfz⟩ := headAt_cells RZ
            have OR := own_cur OY lbk Gs
            have BZ : Below w.heap.size w wb := B1.grown G B1.size (fun k e => by cases e; omega)
            clear TZ G Gs
            go_wp2_with fail
            go_region_law (fail)
            all_goals go_wp2
            all_goals exact bodyPost_ret (res_put (v := .slice (some ⟨w2.heap.size, 0, none⟩) N N) (u := .int .i64 x') (x := v5) rfl (by simp [Act.put]) (by simp [Act.put]) (by simp [Act.put]) (by simp [Act.put]) (headAt_drew (six_set RZ s f c h p m))) rfl ⟨.slice (some ⟨w2.heap.size, 0, none⟩) N N, v5, List.replicate N 0, (ys ++ [x]), x', s, f, c, h, p, m, by simp; omega, (by omega), allI_replicate N ⟨by decide, by decide⟩, hya2, ⟨x0', x1'⟩, HSm, rfl, own_base (own_drew (own_six OR (by omega) s f c h p m)) (by omega), own_base (own_drew (own_six Os (by omega) s f c h p m)) (by omega), (six_below BZ (Nat.le_refl _) s f c h p m).drew⟩
end Go.Proofs.Ytdogibjgogcdkab.draw
