/-
  The walk of the law FnFits, given what the program's BestFit, FreeIn and ChunkAt answer.
  Made from the template FitsLaw.
-/
import Derived.Test.YtlfnjdgkpocanaaDrawFit
import Derived.Test.YtlfnjdgkpocanaaM3
import Derived.Test.YtlfnjdgkpocanaaFitI9
import Derived.Test.YtlfnjdgkpocanaaM8
import Derived.Deep.Cut
namespace Go.Proofs.Ytlfnjdgkpocanaa.draw
open Go.RowKit rows heads words walks
set_option maxRecDepth 100000
set_option linter.unusedVariables false
set_option linter.unusedSimpArgs false

theorem below_drewB {b : Nat} {w w' : World} (h : Below b w w') (n : Nat) : Below b w (w'.drewN n) := ⟨h.os, h.tape, h.output, h.size, h.block⟩
theorem free_rise (xs : List Int) (f t : Int) : ∀ i, 0 < i → i < (freeIn xs f t).length → ¬ (freeIn xs f t).getD i 0 ≤ (freeIn xs f t).getD (i - 1) 0 := by
  intro i h0 hi
  have hp := frees_rise xs f t
  rw [List.pairwise_iff_getElem] at hp
  have hl : (frees xs f t).length = (freeIn xs f t).length := by unfold frees; rw [List.length_map]
  have := hp (i - 1) i (by omega) (by omega) (by omega)
  have e1 := frees_get (xs := xs) (f := f) (t := t) (k := i) hi
  have e2 := frees_get (xs := xs) (f := f) (t := t) (k := i - 1) (by omega)
  unfold rd at e1 e2
  rw [List.getD_eq_getElem?_getD, List.getElem?_eq_getElem (show i < (frees xs f t).length by omega)] at e1
  rw [List.getD_eq_getElem?_getD, List.getElem?_eq_getElem (show i - 1 < (frees xs f t).length by omega)] at e2
  simp only [Option.getD_some] at e1 e2
  rw [e1, e2] at this
  have m1 : (freeIn xs f t).getD i 0 ∈ freeIn xs f t := by rw [List.getD_eq_getElem?_getD, List.getElem?_eq_getElem hi]; exact List.getElem_mem hi
  have m2 : (freeIn xs f t).getD (i - 1) 0 ∈ freeIn xs f t := by rw [List.getD_eq_getElem?_getD, List.getElem?_eq_getElem (show i - 1 < (freeIn xs f t).length by omega)]; exact List.getElem_mem _
  obtain ⟨a, ea, _⟩ := free_size m1
  obtain ⟨b, eb, _⟩ := free_size m2
  rw [ea, eb] at this ⊢
  unfold runOf at this
  simp only [Int.toNat_natCast] at this
  omega
set_option maxHeartbeats 16000000 in
theorem fitsLaw (a0 : Option Addr) (len0 cap0 : Nat) (z0 : List Int) (w : World) (w0 : IsRow .u8 w a0 len0 cap0 z0) :
    Calls Try.prog 3 #[.slice a0 len0 cap0] w fun e w' => e = .returned (.bool true) ∧ Below w.heap.size w w' := by
  have hl : 4096 < len0 ∨ len0 ≤ 4096 := by omega
  rcases hl with hl | hl
  · have hl' : (4096 : Int) < (len0 : Int) := by omega
    clear w0
    go_enter Try.func3, Try.ntmps3
    go_wp2
    go_ret
    exact ⟨rfl, Below.refl _ _⟩
  · have hl' : ¬ (4096 : Int) < (len0 : Int) := by omega
    go_enter Try.func3, Try.ntmps3
    go_wp2_with (go_at_call 5; go_in)
    refine (drawBestFit_any w0 (Below.refl _ _) hl).mono ?_
    rintro e w1 ⟨vr, xs, f, t, s, hx, ha, hf, ht, hs, rfl, OR, B1⟩
    have hx' : xs.length ≤ 1048576 := by omega
    have BF := implBestFit w1 vr xs f t s (own_ints OR) hx' ha hf ht hs
    have hln : (freeIn xs f t).length ≤ 1000 := (freeIn_length xs f t).1
    have HFI : Hid (∀ V, Below w1.heap.size w1 V → Calls Try.prog 8 #[vr, .int .i64 f, .int .i64 t] V fun e w' => ∃ v', e = .returned v' ∧ rows.Own w' V.heap.size v' (freeIn xs f t) ∧ Below V.heap.size V w') := fun V hV => implFreeIn V vr xs f t (intsAt_below (own_ints OR) hV) hx' ha hf ht
    have HSB : Hid (∀ V, Below w1.heap.size w1 V → Calls Try.prog 9 #[vr, .int .i64 f, .int .i64 t, .int .i64 s] V fun e w' => e = .returned (.int .i64 (bestFit xs f t s)) ∧ Below V.heap.size V w') := fun V hV => sBestFit_any (intsAt_below (own_ints OR) hV) hx' f t s hs
    have HSF : Hid (∀ V, Below w1.heap.size w1 V → Calls Try.prog 11 #[vr, .int .i64 f, .int .i64 t] V fun e w' => ∃ v', e = .returned v' ∧ rows.Own w' V.heap.size v' (freeIn xs f t) ∧ Below V.heap.size V w') := fun V hV => sFreeIn_any (intsAt_below (own_ints OR) hV) hx' f t
    have HCH : Hid (∀ V (j : Nat), Below w1.heap.size w1 V → okAt xs j = true → Calls Try.prog 13 #[vr, .int .i64 (j : Int)] V fun e w' => e = .returned (.int .i64 ((chunk xs j).toNat : Int)) ∧ Below V.heap.size V w') := fun V j hV hm => by
      have := implChunkAt V vr xs j (intsAt_below (own_ints OR) hV) hx' ha ⟨by omega, by have := hm; simp only [okAt, Bool.and_eq_true] at this; have := atOk_true this.2; omega⟩
      rw [chunkAt_in hm, ← chunk_nat xs j] at this
      exact this
    have HRI : Hid _ := free_rise xs f t
    have HMH : Hid (∀ x ∈ freeIn xs f t, _) := fun x hx => free_size hx
    have HIS : Hid (IsFit (frees xs f t) s (fitL s (frees xs f t))) := fitL_is s _ (frees_rise xs f t)
    have HFR : Hid (∀ m ∈ frees xs f t, ∃ x ∈ freeIn xs f t, runOf xs x = m) := fun m hm => List.mem_map.1 hm
    have HFM : Hid (∀ x ∈ freeIn xs f t, runOf xs x ∈ frees xs f t) := fun x hx => List.mem_map.2 ⟨x, hx, rfl⟩
    have HBV : Hid (bestFit xs f t s = if 2 ≤ s ∧ s % 2 = 0 then fitV (fitL s (frees xs f t)) else -1) := rfl
    obtain ⟨L, hL⟩ : ∃ L, freeIn xs f t = L := ⟨_, rfl⟩
    obtain ⟨RL, hRL⟩ : ∃ RL, frees xs f t = RL := ⟨_, rfl⟩
    obtain ⟨bb, hbb⟩ : ∃ bb, bestFit xs f t s = bb := ⟨_, rfl⟩
    rw [hL] at hln
    simp only [hL] at HFI HSF HRI HMH HFR HFM
    simp only [hRL] at HIS HFR HFM HBV
    rw [hbb] at BF
    simp only [hbb] at HSB HBV
    have HB1 : Hid _ := B1
    obtain ⟨av, capv, evr, _, _, _, _⟩ := own_ints OR
    subst evr
    clear hL hRL hbb OR B1
    go_upto_region 6 with (first
      | (go_at_call 7; refine BF.mono ?_; clear BF; rintro e w2 ⟨rfl, b2⟩; have HB2 : Hid _ := b2; have FI := HFI.out w2 b2; clear b2 HFI)
      | (go_at_call 8; refine FI.mono ?_; clear FI; rintro e w3 ⟨vl, rfl, OL, b3⟩; have HOL : Hid _ := OL; have HB3 : Hid _ := HB2.out.trans (b3.mono HB2.out.size); obtain ⟨la, lcap, evl, llc, lcm, _, _⟩ := own_ints OL; subst evl; have SB := HSB.out w3 HB3.out; clear OL b3 HSB))
    have HLK : Hid (∀ V v2 b, Below w3.heap.size w3 V → rows.Own V b v2 L → Calls Try.prog 10 #[.slice la L.length lcap, v2] V fun e w' => e = .returned (.bool true) ∧ ∃ n, w' = V.drewN n) := fun V v2 b hV ho => likeInts_same (intsAt_below (own_ints HOL.out) hV) (own_ints ho) (by omega)
    have HRS : Hid (∀ V, Below w3.heap.size w3 V → Calls Try.prog 12 #[.slice la L.length lcap] V fun e w' => e = .returned (.bool true) ∧ ∃ n, w' = V.drewN n) := fun V hV => risesL_any (intsAt_below (own_ints HOL.out) hV) (by omega) (fun i h0 hi => Int.not_le.2 (HRI.out i h0 hi))
    have HHA : Hid (∀ V (n : Int), Below w3.heap.size w3 V → Calls Try.prog 14 #[.slice la L.length lcap, .int .i64 n] V fun e w' => e = .returned (.bool (decide (n ∈ L))) ∧ w' = V) := fun V n hV => hasL_any (intsAt_below (own_ints HOL.out) hV) (by omega) n
    go_upto_region 8 with (first
      | (go_at_call 9; refine SB.mono ?_; clear SB; rintro e w4 ⟨rfl, b4⟩; have HB4 : Hid (Below w3.heap.size w3 w4) := b4; have SF := HSF.out w4 (HB3.out.trans (b4.mono HB3.out.size)); clear b4 HSF)
      | (go_at_call 11; refine SF.mono ?_; clear SF; rintro e w5 ⟨vx, rfl, OX, b5⟩; have HB5 : Hid (Below w3.heap.size w3 w5) := HB4.out.trans (b5.mono HB4.out.size); have LK := HLK.out w5 vx _ HB5.out OX; clear OX b5 HLK)
      | (go_at_call 10; refine LK.mono ?_; clear LK; rintro e w6 ⟨rfl, q6, rfl⟩; have HB6 : Hid (Below w3.heap.size w3 (w5.drewN q6)) := below_drewB HB5.out q6; have RS := HRS.out _ HB6.out; clear HRS)
      | (go_at_call 12; refine RS.mono ?_; clear RS; rintro e w7 ⟨rfl, q7, rfl⟩; have HB7 : Hid (Below w3.heap.size w3 (w5.drewN (q6 + q7))) := below_drewB HB5.out (q6 + q7)))
    generalize w5.drewN (q6 + q7) = Z at *
    have HZ : Hid (∀ V, Below Z.heap.size Z V → Below w3.heap.size w3 V ∧ Below w1.heap.size w1 V ∧ Below w.heap.size w V) := fun V hV => by
      have h3 := HB7.out.trans (hV.mono HB7.out.size)
      have h1 := HB3.out.trans (h3.mono HB3.out.size)
      exact ⟨h3, h1, HB1.out.trans (h1.mono HB1.out.size)⟩
    clear HB2 HB4 HB5 HB6 HRI
    by_cases h2 : s < 2
    · have HE : Hid (bb = -1) := by show _ = _; rw [HBV.out, if_neg (by omega)]
      have hb1 : bb = -1 := HE.out
      subst hb1
      have HF : Hid _ := (HZ.out Z (Below.refl _ _)).2.2
      clear HBV HIS
      go_wp2_with fail
      go_ret
      exact ⟨rfl, HF.out⟩
    · have hm : Int.tmod s 2 = s % 2 := by rw [Int.tmod_eq_emod_of_nonneg (by omega)]
      by_cases h3 : s % 2 = 0
      · have hm0 : Int.tmod s 2 = 0 := by omega
        have HE : Hid (bb = fitV (fitL s RL)) := by show _ = _; rw [HBV.out, if_pos ⟨by omega, h3⟩]
        clear hm h3 HBV
        have HLC : Hid (∀ V, Below Z.heap.size Z V → ∀ k : Nat, k < L.length → ∃ lb loff, la = some ⟨lb, loff, none⟩ ∧ V.cell? ⟨lb, loff + k, none⟩ = some (.int .i64 (L.getD k 0))) := fun V hV k hk => by
          obtain ⟨la', lcap', e', _, _, _, hcy⟩ := intsAt_below (own_ints HOL.out) (HZ.out V hV).1
          injection e' with e1 e2 e3
          subst e1
          obtain ⟨lb, loff, rfl, _, hcy⟩ := hcy (by omega)
          exact ⟨lb, loff, rfl, hcy k hk⟩
        have HCC : Hid (∀ V (j : Nat), Below Z.heap.size Z V → okAt xs j = true → Calls Try.prog 13 #[.slice av xs.length capv, .int .i64 (j : Int)] V fun e w' => e = .returned (.int .i64 ((chunk xs j).toNat : Int)) ∧ Below V.heap.size V w') := fun V j hV hm => HCH.out V j (HZ.out V hV).2.1 hm
        have HMK : Hid (∀ k, k < L.length → ∃ j n : Nat, L.getD k 0 = (j : Int) ∧ (chunk xs j).toNat = n ∧ okAt xs j = true ∧ (j, n) ∈ RL ∧ n ≤ xs.length ∧ j < xs.length) := fun k hk => by
          have hm : L.getD k 0 ∈ L := by rw [List.getD_eq_getElem?_getD, List.getElem?_eq_getElem hk]; exact List.getElem_mem hk
          obtain ⟨j, e1, e2, e3, e4, e5, e6⟩ := HMH.out _ hm
          refine ⟨j, _, e1, rfl, e4, ?_, e6, by omega⟩
          have := HFM.out _ hm
          rw [e1] at this
          exact this
        have HIF : Hid (∀ o, fitL s RL = o → IsFit RL s o) := fun o ho => ho ▸ HIS.out
        have HMR : Hid (∀ m : Run, m ∈ RL → (m.1 : Int) ∈ L ∧ okAt xs (m.1 : Int) = true ∧ (chunk xs m.1).toNat = m.2) := fun m hm => by
          obtain ⟨x, hx1, hx2⟩ := HFR.out m hm
          obtain ⟨j, e1, e2, e3, e4, e5, e6⟩ := HMH.out _ hx1
          subst e1
          rw [← hx2]
          unfold runOf
          simp only [Int.toNat_natCast]
          exact ⟨hx1, e4, trivial⟩
        have HHZ : Hid (∀ V (n : Int), Below Z.heap.size Z V → Calls Try.prog 14 #[.slice la L.length lcap, .int .i64 n] V fun e w' => e = .returned (.bool (decide (n ∈ L))) ∧ w' = V) := fun V n hV => HHA.out V n (HZ.out V hV).1
        have HZW : Hid (∀ V, Below Z.heap.size Z V → Below w.heap.size w V) := fun V hV => (HZ.out V hV).2.2
        clear HIS HFR HFM HMH HHA HCH HZ HOL HB3 HB7 HB1
        cases hfit : fitL s RL with
        | none =>
          have hb1 : bb = -1 := by rw [HE.out, hfit]; rfl
          subst hb1
          have HNO : Hid _ := HIF.out none hfit
          clear HE HIF HMR HHZ hfit
          go_wp2_with fail
          go_loopw [9] (fun q wr => ∃ k : Nat, k ≤ L.length ∧ q = .int .i64 (k : Int) ∧ Below Z.heap.size Z wr) (fun q _ => L.length - (intOf q).toNat)
          case atStart => exact ⟨0, Nat.zero_le _, rfl, Below.refl _ _⟩
          case round =>
            obtain ⟨k, hk, rfl, hB⟩ := hrel
            have HB : Hid _ := hB
            by_cases hlt : k < L.length
            · have hlt' : (k : Int) < (L.length : Int) := by omega
              obtain ⟨lb, loff, rfl, c0⟩ := HLC.out wr hB k hlt
              obtain ⟨j, n, e1, e2, e3, e4, e5, e6⟩ := HMK.out k hlt
              have CH := HCC.out wr j hB e3
              rw [e1] at c0
              rw [e2] at CH
              have hn : ¬ (n : Int) ≥ s := by have := HNO.out _ e4; simp only at this; omega
              clear hB e1 e2 e3 e4
              go_wp2_with (go_at_call 13; refine CH.mono ?_; clear CH; rintro e w8 ⟨rfl, b8⟩; have HB8 : Hid _ := HB.out.trans (b8.mono HB.out.size); clear b8)
              exact ⟨⟨k + 1, by omega, by go_num, HB8.out⟩, by simp [intOf]; omega⟩
            · have hlt' : ¬ (k : Int) < (L.length : Int) := by omega
              have HF : Hid _ := HZW.out wr hB
              clear hB
              go_wp2_with fail
              go_ret
              exact ⟨rfl, HF.out⟩
        | some m =>
          have hIS := HIF.out (some m) hfit
          obtain ⟨hmL, hmo, hmc⟩ := HMR.out m hIS.1
          obtain ⟨mp, mn⟩ := m
          simp only at hmL hmo hmc
          have hb1 : bb = (mp : Int) := by rw [HE.out, hfit]; rfl
          subst hb1
          have hms : (mn : Int) ≥ s := hIS.2.1
          have HNO : Hid (∀ r ∈ RL, s ≤ (r.2 : Int) → ltF r (mp, mn) = false) := hIS.2.2
          have HCM : Hid (∀ V, Below Z.heap.size Z V → Calls Try.prog 13 #[.slice av xs.length capv, .int .i64 (mp : Int)] V fun e w' => e = .returned (.int .i64 (mn : Int)) ∧ Below V.heap.size V w') := fun V hV => by
            have := HCC.out V mp hV hmo
            rwa [hmc] at this
          have HHM : Hid (∀ V, Below Z.heap.size Z V → Calls Try.prog 14 #[.slice la L.length lcap, .int .i64 (mp : Int)] V fun e w' => e = .returned (.bool true) ∧ w' = V) := fun V hV => by
            have := HHZ.out V (mp : Int) hV
            rwa [decide_eq_true hmL] at this
          have hmp : ¬ (mp : Int) < 0 := by omega
          clear HE HIF HMR HHZ hfit hIS hmL hmo hmc
          go_wp2_with fail
          go_loopw [9] (fun q wr => ∃ k : Nat, k ≤ L.length ∧ q = .int .i64 (k : Int) ∧ Below Z.heap.size Z wr) (fun q _ => L.length - (intOf q).toNat)
          case atStart => exact ⟨0, Nat.zero_le _, rfl, Below.refl _ _⟩
          case round =>
            obtain ⟨k, hk, rfl, hB⟩ := hrel
            have HB : Hid _ := hB
            by_cases hlt : k < L.length
            · have hlt' : (k : Int) < (L.length : Int) := by omega
              obtain ⟨lb, loff, rfl, c0⟩ := HLC.out wr hB k hlt
              have HLK' : Hid (∀ V, Below Z.heap.size Z V → V.cell? ⟨lb, loff + k, none⟩ = some (.int .i64 (L.getD k 0))) := fun V hV => by
                obtain ⟨lb', loff', e, h⟩ := HLC.out V hV k hlt
                injection e with e
                injection e with e1 e2
                subst e1 e2
                exact h
              obtain ⟨j, n, e1, e2, e3, e4, e5, e6⟩ := HMK.out k hlt
              have CH := HCC.out wr j hB e3
              simp only [e1] at c0 HLK'
              rw [e2] at CH
              have HN2 : Hid _ := HNO.out (j, n) e4
              clear hB e1 e2 e3 e4
              by_cases hns : s ≤ (n : Int)
              · have hns' : (n : Int) ≥ s := hns
                have hq := HN2.out hns
                rw [ltF_false] at hq
                simp only at hq
                have hnm : ¬ (n : Int) < (mn : Int) := by omega
                by_cases hqe : n = mn
                · subst hqe
                  have hjm : ¬ (j : Int) < (mp : Int) := by omega
                  clear hq
                  go_wp2_with (first
                    | (go_at_call 13; refine CH.mono ?_; clear CH; rintro e w8 ⟨rfl, b8⟩; have HB8 : Hid _ := HB.out.trans (b8.mono HB.out.size); have CM := HCM.out w8 HB8.out; clear b8 c0)
                    | (go_at_call 13; refine CM.mono ?_; clear CM; rintro e w9 ⟨rfl, b9⟩; have HB9 : Hid _ := HB8.out.trans (b9.mono HB8.out.size); have CN := HCM.out w9 HB9.out; clear b9)
                    | (go_at_call 13; refine CN.mono ?_; clear CN; rintro e w10 ⟨rfl, b10⟩; have HB10 : Hid _ := HB9.out.trans (b10.mono HB9.out.size); have c10 := HLK'.out w10 HB10.out; clear b10))
                  exact ⟨⟨k + 1, by omega, by go_num, HB10.out⟩, by simp [intOf]; omega⟩
                · have hqn : ((n : Int) == (mn : Int)) = false := by simp; omega
                  clear hq
                  go_wp2_with (first
                    | (go_at_call 13; refine CH.mono ?_; clear CH; rintro e w8 ⟨rfl, b8⟩; have HB8 : Hid _ := HB.out.trans (b8.mono HB.out.size); have CM := HCM.out w8 HB8.out; clear b8 c0)
                    | (go_at_call 13; refine CM.mono ?_; clear CM; rintro e w9 ⟨rfl, b9⟩; have HB9 : Hid _ := HB8.out.trans (b9.mono HB8.out.size); have CN := HCM.out w9 HB9.out; clear b9)
                    | (go_at_call 13; refine CN.mono ?_; clear CN; rintro e w10 ⟨rfl, b10⟩; have HB10 : Hid _ := HB9.out.trans (b10.mono HB9.out.size); clear b10))
                  exact ⟨⟨k + 1, by omega, by go_num, HB10.out⟩, by simp [intOf]; omega⟩
              · have hns' : ¬ (n : Int) ≥ s := hns
                go_wp2_with (go_at_call 13; refine CH.mono ?_; clear CH; rintro e w8 ⟨rfl, b8⟩; have HB8 : Hid _ := HB.out.trans (b8.mono HB.out.size); clear b8)
                exact ⟨⟨k + 1, by omega, by go_num, HB8.out⟩, by simp [intOf]; omega⟩
            · have hlt' : ¬ (k : Int) < (L.length : Int) := by omega
              have HA1 := HHM.out wr hB
              have CM := HCM.out wr hB
              clear hB
              go_wp2_with (first
                | (go_at_call 14; refine HA1.mono ?_; clear HA1; rintro e w8 ⟨rfl, hw8⟩; rw [hw8]; clear hw8 w8)
                | (go_at_call 13; refine CM.mono ?_; clear CM; rintro e w9 ⟨rfl, b9⟩; have HF : Hid _ := HZW.out w9 (HB.out.trans (b9.mono HB.out.size)); clear b9))
              go_ret
              exact ⟨rfl, HF.out⟩
      · have HE : Hid (bb = -1) := by show _ = _; rw [HBV.out, if_neg (by omega)]
        have hb1 : bb = -1 := HE.out
        subst hb1
        have hm0 : Int.tmod s 2 = 1 := by omega
        have HF : Hid _ := (HZ.out Z (Below.refl _ _)).2.2
        clear HBV HIS hm h3
        go_wp2_with fail
        go_ret
        exact ⟨rfl, HF.out⟩
end Go.Proofs.Ytlfnjdgkpocanaa.draw
