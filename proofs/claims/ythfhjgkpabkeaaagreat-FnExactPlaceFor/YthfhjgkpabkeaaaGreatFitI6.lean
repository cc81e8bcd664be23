/-
  Chapter 8 as the program has it: container/heap.down over free chunks.
  Made from the template FitI6 (mkfit6.py).
-/
import Derived.Test.YthfhjgkpabkeaaaGreatM14
namespace Go.Proofs.YthfhjgkpabkeaaaGreat.walks
open Go.RowKit rows heads words region
set_option maxRecDepth 100000
set_option linter.unusedVariables false
set_option linter.unusedSimpArgs false

/-- Of the two under i the lesser: who is there. -/
def LeastOf (R : List Run) (n i j : Nat) : Prop := ∀ k, 0 < k → k < n → (k - 1) / 2 = i → ltF (rd R k) (rd R j) = false
theorem least_right {R : List Run} {n i j1 j2 : Nat} (e1 : 2 * i + 1 = j1) (e2 : 2 * i + 2 = j2) (h : ltF (rd R j2) (rd R j1) = true) : LeastOf R n i j2 := fun k h0 hn hp => by
  subst e1 e2
  rcases (show k = 2 * i + 1 ∨ k = 2 * i + 2 by omega) with rfl | rfl
  · exact ltF_asym h
  · exact ltF_refl _
theorem least_left {R : List Run} {n i j1 j2 : Nat} (e1 : 2 * i + 1 = j1) (e2 : 2 * i + 2 = j2) (h : j2 < n → ltF (rd R j2) (rd R j1) = false) : LeastOf R n i j1 := fun k h0 hn hp => by
  subst e1 e2
  rcases (show k = 2 * i + 1 ∨ k = 2 * i + 2 by omega) with rfl | rfl
  · exact ltF_refl _
  · exact h hn
set_option maxHeartbeats 16000000 in
theorem down_any {w : World} {base P : Nat} {hi : Nat → Prop} {R : List Run} (hB : Bag w base P hi R) {n i0 : Nat} (hU : DownF R n i0) (hi0 : i0 ≤ n) :
    Calls Tryz.prog 149 #[bagv P, .int .i64 (i0 : Int), .int .i64 (n : Int)] w fun e w' => (∃ b, e = .returned (.bool b)) ∧ ∃ R', Bag w' base P hi R' ∧ R'.length = R.length ∧ HeapF R' n ∧ (∀ x, x ∈ R' ↔ x ∈ R) ∧ (∀ k, n ≤ k → rd R' k = rd R k) ∧ Kp base P hi w w' := by
  have HB0 : Hid _ := hB
  have HU0 : Hid _ := hU
  have hn0 := hU.lt
  have hlen := hB.len
  clear hB hU
  unfold bagv
  go_enter Tryz.func149, Tryz.ntmps149
  go_wp2_with fail
  go_loopw [7] (fun q wr => ∃ (i : Nat) (R' : List Run), q = .int .i64 (i : Int) ∧ i ≤ n ∧ Bag wr base P hi R' ∧ DownF R' n i ∧ R'.length = R.length ∧ (∀ x, x ∈ R' ↔ x ∈ R) ∧ (∀ k, n ≤ k → rd R' k = rd R k) ∧ Kp base P hi w wr) (fun q _ => n - (intOf q).toNat)
  case atStart => exact ⟨i0, R, rfl, hi0, HB0.out, HU0.out, rfl, fun _ => Iff.rfl, fun _ _ => rfl, Kp.refl _ _ _ _⟩
  case round =>
    obtain ⟨i, R', rfl, hin, hB, hU, hl, hm, hr, hK⟩ := hrel
    clear HB0 HU0
    have hn := hU.lt
    have HBB : Hid _ := hB
    have HUU : Hid _ := hU
    have HM : Hid _ := hm
    have HR : Hid _ := hr
    have HK : Hid _ := hK
    have HL : Hid _ := hl
    have hil : i ≤ 1048576 := by omega
    have hnl : n ≤ 1048576 := by omega
    obtain ⟨j1, e1⟩ : ∃ j1, 2 * i + 1 = j1 := ⟨_, rfl⟩
    obtain ⟨j2, e2⟩ : ∃ j2, 2 * i + 2 = j2 := ⟨_, rfl⟩
    have a1 : IntKind.i64.wrap (2 * (i : Int) + 1) = (j1 : Int) := by rw [IntKind.wrap_i64]; omega
    have a2 : IntKind.i64.wrap ((j1 : Int) + 1) = (j2 : Int) := by rw [IntKind.wrap_i64]; omega
    have n1 : ¬ (j1 : Int) < 0 := by omega
    have HE : Hid _ := And.intro e1 e2
    by_cases h1 : j1 < n
    · have g1 : ¬ (j1 : Int) ≥ (n : Int) := by omega
      obtain ⟨g, c, hx, hO, hg, hbg⟩ := hB.open' (by omega)
      have HC : Hid (∀ V, Below wr.heap.size wr V → V.cell? ⟨P, 0, none⟩ = some (.slice (some ⟨g, 0, none⟩) R'.length c)) := fun V hV => (box_cell (show Box V P _ from (hV.block P (lt_of_block hx)).trans hx)).1
      have HLE : Hid (∀ V, Below wr.heap.size wr V → ∀ p q : Nat, p < n → q < n → Calls Tryz.prog 180 #[.slice (some ⟨g, 0, none⟩) R'.length c, .int .i64 (p : Int), .int .i64 (q : Int)] V fun e w' => e = .returned (.bool (ltF (rd R' p) (rd R' q))) ∧ Below V.heap.size V w') := fun V hV p q hp hq => less_any (ownF_below hO hV) (by omega) (by omega) (by omega)
      have HSW : Hid (∀ V, Below wr.heap.size wr V → ∀ p q : Nat, p < n → q < n → Calls Tryz.prog 181 #[.slice (some ⟨g, 0, none⟩) R'.length c, .int .i64 (p : Int), .int .i64 (q : Int)] V fun e w' => e = .returned (.tuple #[]) ∧ Bag w' base P hi (swp R' p q) ∧ Kp base P hi V w') := fun V hV p q hp hq => by
        obtain ⟨B5, K5⟩ := hB.grow hV
        refine (swap_any (ownF_below hO hV) (i := p) (j := q) (by omega) (by omega) (by omega)).mono ?_
        rintro e w' ⟨rfl, O', b', s'⟩
        exact ⟨rfl, B5.swapped ((hV.block P (lt_of_block hx)).trans hx) hg O' b' (fun q hq _ => s' q hq)⟩
      have HEND : Hid (∀ V (j : Nat), Below wr.heap.size wr V → LeastOf R' n i j → ltF (rd R' j) (rd R' i) = false → ∃ R', Bag V base P hi R' ∧ R'.length = R.length ∧ HeapF R' n ∧ (∀ x, x ∈ R' ↔ x ∈ R) ∧ (∀ k, n ≤ k → rd R' k = rd R k) ∧ Kp base P hi w V) := fun V j hV hL h => by
        obtain ⟨B5, K5⟩ := hB.grow hV
        exact ⟨R', B5, hl, hU.stop (fun k h0 hk hp => nlt_trans h (hL k h0 hk hp)), hm, hr, hK.trans K5⟩
      have HNX : Hid (∀ V W (j : Nat), Below wr.heap.size wr V → 0 < j → j < n → (j - 1) / 2 = i → LeastOf R' n i j → ltF (rd R' j) (rd R' i) = true → Bag W base P hi (swp R' i j) → Kp base P hi V W → ∃ (i' : Nat) (R' : List Run), Value.int .i64 (j : Int) = .int .i64 (i' : Int) ∧ i' ≤ n ∧ Bag W base P hi R' ∧ DownF R' n i' ∧ R'.length = R.length ∧ (∀ x, x ∈ R' ↔ x ∈ R) ∧ (∀ k, n ≤ k → rd R' k = rd R k) ∧ Kp base P hi w W) := fun V W j hV h0 hj hp hL h hBW hKW => by
        refine ⟨j, swp R' i j, rfl, by omega, hBW, hU.step h0 hj hp h hL, by rw [swp_len]; exact hl, fun x => (swp_mem (by omega) (by omega) x).trans (hm x), fun k hk => ?_, hK.trans ((hB.grow hV).2.trans hKW)⟩
        rw [swp_get (by omega) (by omega), if_neg (by omega), if_neg (by omega)]
        exact hr k hk
      have hin' : i < n := by omega
      have hj1l : j1 ≤ 1048576 := by omega
      clear e1 e2
      have ML := mLess (HC.out wr (Below.refl _ _))
      clear hB hU hm hr hK hl hx hO hg hbg HBB HUU HM HR HK HL
      by_cases h2 : j2 < n
      · have g2 : (j2 : Int) < (n : Int) := by omega
        have LE1 := HLE.out wr (Below.refl _ _) j2 j1 h2 h1
        cases hl1 : ltF (rd R' j2) (rd R' j1)
        · rw [hl1] at LE1
          have HLO : Hid _ := least_left (R := R') (n := n) (i := i) HE.out.1 HE.out.2 (fun _ => hl1)
          clear hl1
          cases hl2 : ltF (rd R' (j1)) (rd R' i)
          · have HL2 : Hid _ := hl2
            go_wp2_with (first
              | (go_at_call 180; refine LE1.mono ?_; clear LE1 ML; rintro e w4 ⟨rfl, b4⟩; have HB4 : Hid _ := b4; have ML4 := mLess (HC.out w4 b4); have LE2 := HLE.out w4 b4 (j1) i h1 hin'; rw [hl2] at LE2; clear b4)
              | (go_at_call 180; refine LE2.mono ?_; clear LE2 ML4; rintro e w5 ⟨rfl, b5⟩; have HB5 : Hid (Below wr.heap.size wr w5) := HB4.out.trans (b5.mono HB4.out.size); clear b5))
            all_goals go_ret
            all_goals exact ⟨⟨_, rfl⟩, HEND.out w5 (j1) HB5.out HLO.out HL2.out⟩
          · have HL2 : Hid _ := hl2
            go_wp2_with (first
              | (go_at_call 180; refine LE1.mono ?_; clear LE1 ML; rintro e w4 ⟨rfl, b4⟩; have HB4 : Hid _ := b4; have ML4 := mLess (HC.out w4 b4); have LE2 := HLE.out w4 b4 (j1) i h1 hin'; rw [hl2] at LE2; clear b4)
              | (go_at_call 180; refine LE2.mono ?_; clear LE2 ML4; rintro e w5 ⟨rfl, b5⟩; have HB5 : Hid (Below wr.heap.size wr w5) := HB4.out.trans (b5.mono HB4.out.size); have MS := mSwap (HC.out w5 HB5.out); have SW := HSW.out w5 HB5.out i (j1) hin' h1; clear b5)
              | (go_at_call 181; refine SW.mono ?_; clear SW MS; rintro e w6 ⟨rfl, B6, K6⟩; have HB6 : Hid _ := B6; have HK6 : Hid _ := K6; clear B6 K6))
            refine ⟨HNX.out w5 w6 (j1) HB5.out (by have := HE.out; omega) h1 (by have := HE.out; omega) HLO.out HL2.out HB6.out HK6.out, ?_⟩
            have := HE.out
            simp [intOf]
            omega
        · rw [hl1] at LE1
          have HLO : Hid _ := least_right (R := R') (n := n) (i := i) HE.out.1 HE.out.2 hl1
          clear hl1
          cases hl2 : ltF (rd R' (j2)) (rd R' i)
          · have HL2 : Hid _ := hl2
            go_wp2_with (first
              | (go_at_call 180; refine LE1.mono ?_; clear LE1 ML; rintro e w4 ⟨rfl, b4⟩; have HB4 : Hid _ := b4; have ML4 := mLess (HC.out w4 b4); have LE2 := HLE.out w4 b4 (j2) i h2 hin'; rw [hl2] at LE2; clear b4)
              | (go_at_call 180; refine LE2.mono ?_; clear LE2 ML4; rintro e w5 ⟨rfl, b5⟩; have HB5 : Hid (Below wr.heap.size wr w5) := HB4.out.trans (b5.mono HB4.out.size); clear b5))
            all_goals go_ret
            all_goals exact ⟨⟨_, rfl⟩, HEND.out w5 (j2) HB5.out HLO.out HL2.out⟩
          · have HL2 : Hid _ := hl2
            go_wp2_with (first
              | (go_at_call 180; refine LE1.mono ?_; clear LE1 ML; rintro e w4 ⟨rfl, b4⟩; have HB4 : Hid _ := b4; have ML4 := mLess (HC.out w4 b4); have LE2 := HLE.out w4 b4 (j2) i h2 hin'; rw [hl2] at LE2; clear b4)
              | (go_at_call 180; refine LE2.mono ?_; clear LE2 ML4; rintro e w5 ⟨rfl, b5⟩; have HB5 : Hid (Below wr.heap.size wr w5) := HB4.out.trans (b5.mono HB4.out.size); have MS := mSwap (HC.out w5 HB5.out); have SW := HSW.out w5 HB5.out i (j2) hin' h2; clear b5)
              | (go_at_call 181; refine SW.mono ?_; clear SW MS; rintro e w6 ⟨rfl, B6, K6⟩; have HB6 : Hid _ := B6; have HK6 : Hid _ := K6; clear B6 K6))
            refine ⟨HNX.out w5 w6 (j2) HB5.out (by have := HE.out; omega) h2 (by have := HE.out; omega) HLO.out HL2.out HB6.out HK6.out, ?_⟩
            have := HE.out
            simp [intOf]
            omega
      · have g2 : ¬ (j2 : Int) < (n : Int) := by omega
        have HLO : Hid _ := least_left (R := R') (n := n) (i := i) HE.out.1 HE.out.2 (fun h => absurd h h2)
        cases hl2 : ltF (rd R' (j1)) (rd R' i)
        · have LE2 := HLE.out wr (Below.refl _ _) (j1) i h1 hin'
          rw [hl2] at LE2
          have HL2 : Hid _ := hl2
          clear hl2
          go_wp2_with ((go_at_call 180; refine LE2.mono ?_; clear LE2 ML; rintro e w5 ⟨rfl, b5⟩; have HB5 : Hid (Below wr.heap.size wr w5) := b5; clear b5))
          all_goals go_ret
          all_goals exact ⟨⟨_, rfl⟩, HEND.out w5 (j1) HB5.out HLO.out HL2.out⟩
        · have LE2 := HLE.out wr (Below.refl _ _) (j1) i h1 hin'
          rw [hl2] at LE2
          have HL2 : Hid _ := hl2
          clear hl2
          go_wp2_with (first
            | (go_at_call 180; refine LE2.mono ?_; clear LE2 ML; rintro e w5 ⟨rfl, b5⟩; have HB5 : Hid (Below wr.heap.size wr w5) := b5; have MS := mSwap (HC.out w5 HB5.out); have SW := HSW.out w5 HB5.out i (j1) hin' h1; clear b5)
            | (go_at_call 181; refine SW.mono ?_; clear SW MS; rintro e w6 ⟨rfl, B6, K6⟩; have HB6 : Hid _ := B6; have HK6 : Hid _ := K6; clear B6 K6))
          refine ⟨HNX.out w5 w6 (j1) HB5.out (by have := HE.out; omega) h1 (by have := HE.out; omega) HLO.out HL2.out HB6.out HK6.out, ?_⟩
          have := HE.out
          simp [intOf]
          omega
    · have g1 : (j1 : Int) ≥ (n : Int) := by omega
      have HH : Hid _ := hU.stop (fun k h0 hk hp => by omega)
      clear hB hU hm hr hK hl e1 e2
      go_wp2_with fail
      go_ret
      first
        | exact ⟨⟨_, rfl⟩, R', HBB.out, HL.out, HH.out, HM.out, HR.out, HK.out⟩
        | (refine ⟨?_, R', HBB.out, HL.out, HH.out, fun a b => HM.out (a, b), HR.out, HK.out⟩; by_cases hh : i0 < i <;> simp [hh])
end Go.Proofs.YthfhjgkpabkeaaaGreat.walks
