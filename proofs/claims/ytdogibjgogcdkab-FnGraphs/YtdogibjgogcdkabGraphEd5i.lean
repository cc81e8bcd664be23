/-
  Chapter 6: an object more, in the graph that a pointer leads to; by the program.
  Made from the template GraphEd5i.
-/
import Derived.Test.YtdogibjgogcdkabGraphEd5r
import Derived.Test.YtdogibjgogcdkabHeadI
import Derived.Deep.Quiet
import Derived.BigQuiet
namespace Go.Proofs.Ytdogibjgogcdkab.gr
open Go.RowKit rows heads region
set_option maxRecDepth 100000
set_option linter.unusedVariables false

theorem drawI_any (s : Int) (b1 : 0 ≤ s) (b2 : s ≤ 65535) (w : World) :
    Calls Try.prog 28 #[.int .i64 s] w fun e w' => e = .returned (.int .i64 (drawn s)) ∧ w' = w := by
  have i : inR 0 65535 s = true := by simp [inR]; omega
  have e : drawn s = (25173 * s + 13849) % 65536 := rfl
  rw [e]
  have HI := hashInRange_any s
  rw [i] at HI
  go_enter Try.func28, Try.ntmps28
  go_wp2_with (go_at_call 94; refine (HI _).mono ?_; rintro e w3 ⟨rfl, hw3⟩; rw [hw3]; clear hw3 w3)
  go_ret
  exact ⟨rfl, rfl⟩

theorem hasRoom_any {w : World} {base P : Nat} {G : Gr} (H : Held w base P G) :
    Calls Try.prog 101 #[.pointer (some ⟨P, 0, none⟩)] w fun e w' => e = .returned (.bool (decide (G.objs.length < 200) && decide (G.next < 100000))) ∧ Below w.heap.size w w' := by
  obtain ⟨a0, c0, u0, u3, u4⟩ := held_cells H
  clear H
  by_cases h1 : G.objs.length < 200
  · have h1' : (G.objs.length : Int) < 200 := by omega
    have e1 : decide (G.objs.length < 200) = true := decide_eq_true h1
    rw [e1]
    clear h1 e1
    by_cases h2 : G.next < 100000
    · go_enter Try.func101, Try.ntmps101
      go_wp2
      go_ret
      exact ⟨by simp [h2], Below.refl _ _⟩
    · go_enter Try.func101, Try.ntmps101
      go_wp2
      go_ret
      exact ⟨by simp; omega, Below.refl _ _⟩
  · have h1' : ¬ (G.objs.length : Int) < 200 := by omega
    have e1 : decide (G.objs.length < 200) = false := decide_eq_false h1
    rw [e1]
    clear h1 e1
    go_enter Try.func101, Try.ntmps101
    go_wp2
    go_ret
    exact ⟨by simp, Below.refl _ _⟩
theorem fok_new (s f c d : Int) (h0 : 0 ≤ d) (h1 : d ≤ 65535) : fok s f c d false false = newOk c f s := by
  unfold fok newOk hok
  by_cases h6 : f = 6
  · subst h6; rfl
  · rw [if_neg h6, if_neg h6]
    have e : inR 0 65535 d = true := by simp [inR]; omega
    have e0 : inR 0 65535 0 = true := rfl
    rw [e, e0]
    by_cases h2 : f ≤ 2
    · by_cases hf : 0 ≤ f
      · have : inR 0 2 f = true := by simp [inR]; omega
        rw [this, decide_eq_true h2]
      · have a1 : (f == 0) = false := by simp; omega
        have a2 : (f == 1) = false := by simp; omega
        have a3 : (f == 7) = false := by simp; omega
        have a4 : (f == 2) = false := by simp; omega
        rw [a1, a2, a3, a4]
        simp
    · have : inR 0 2 f = false := by
        cases d : inR 0 2 f
        · rfl
        · have : 0 ≤ f ∧ f ≤ 2 := by simpa [inR] using d
          omega
      rw [this, decide_eq_false h2]

set_option maxHeartbeats 16000000 in
theorem cMade_any {w : World} {base P b1 b2 b3 b4 : Nat} {G : Gr} (H : Held w base P G) (hok : gOk G = true) (x c f s : Int) (n4 : NumAt w b4 x) (n3 : NumAt w b3 c) (n2 : NumAt w b2 f) (n1 : NumAt w b1 s) (l4 : b4 < base) :
    Calls Try.prog 98 #[.pointer (some ⟨P, 0, none⟩), .pointer (some ⟨b1, 0, none⟩), .pointer (some ⟨b2, 0, none⟩), .pointer (some ⟨b3, 0, none⟩), .pointer (some ⟨b4, 0, none⟩)] w fun e w' => e = .returned (.bool (made G x c f s).2) ∧ Held w' base P (made G x c f s).1 ∧ Below base w w' := by
  unfold NumAt at n1 n2 n3 n4
  have RT := rootInRange_any x
  have hbw := held_base H
  obtain ⟨hl2, h6, _, hN1, hN2, hS1, hS2⟩ := gOk_len hok
  have DR := drawI_any G.seed hS1 hS2
  have hd : 0 ≤ drawn G.seed ∧ drawn G.seed ≤ 65535 := by unfold drawn; omega
  have FN := fok_new s f c (drawn G.seed) hd.1 hd.2
  have HC : Hid (∀ W, Below w.heap.size w W → W.cell? ⟨b1, 0, none⟩ = some (.int .i64 s) ∧ W.cell? ⟨b2, 0, none⟩ = some (.int .i64 f) ∧ W.cell? ⟨b3, 0, none⟩ = some (.int .i64 c) ∧ W.cell? ⟨b4, 0, none⟩ = some (.int .i64 x)) := fun W hW => ⟨(hW.cell (p := ⟨b1, 0, none⟩) (cell_lt n1)).trans n1, (hW.cell (p := ⟨b2, 0, none⟩) (cell_lt n2)).trans n2, (hW.cell (p := ⟨b3, 0, none⟩) (cell_lt n3)).trans n3, (hW.cell (p := ⟨b4, 0, none⟩) (cell_lt n4)).trans n4⟩
  have HB : Hid (∀ W, Below w.heap.size w W → _) := fun W hW => held_below H hW
  obtain ⟨a0, c0, u0, u3, u4⟩ := held_cells H
  have BZ : Below w.heap.size w (w.alloc (hb 0 0 0 0 false false)) := (Below.refl _ w).alloc (Nat.le_refl _) _
  obtain ⟨m1, m2, m3, m4⟩ := HC.out _ BZ
  obtain ⟨a0', c0', v0, v3, v4⟩ := held_cells (HB.out _ BZ)
  have HMD : Hid (∀ RG RB, made G x c f s = (RG, RB) → ((inR 0 5 x = false ∨ fok s f c (drawn G.seed) false false = false ∨ (decide (G.objs.length < 200) && decide (G.next < 100000)) = false) → RG = G ∧ RB = false) ∧ ((inR 0 5 x = true ∧ fok s f c (drawn G.seed) false false = true ∧ (decide (G.objs.length < 200) && decide (G.next < 100000)) = true) → RB = true ∧ RG = ⟨G.objs ++ [⟨G.next, c, f, drawn G.seed, List.replicate s.toNat refD⟩], G.roots.set x.toNat (2, G.next), G.mourned, G.next + 1, drawn G.seed⟩ ∧ 0 ≤ s ∧ s ≤ 20 ∧ G.objs.length ≤ 199 ∧ G.next ≤ 99999)) := fun RG RB e => by
    have eR : (decide (G.objs.length ≠ 200) && decide (G.next ≠ 100000)) = (decide (G.objs.length < 200) && decide (G.next < 100000)) := by
      congr 1
      · exact decide_eq_decide.2 ⟨fun h => by omega, fun h => by omega⟩
      · exact decide_eq_decide.2 ⟨fun h => by omega, fun h => by omega⟩
    refine ⟨fun hn => ?_, fun hy => ?_⟩
    · rw [FN] at hn
      rw [made_no (by
        rw [eR]
        rcases hn with h | h | h <;> rw [h] <;> simp)] at e
      obtain ⟨e1, e2⟩ := Prod.mk.inj e
      exact ⟨e1.symm, e2.symm⟩
    · obtain ⟨y1, y2, y3⟩ := hy
      rw [FN] at y2
      rw [made_yes (by rw [eR, y1, y2, y3]; rfl)] at e
      obtain ⟨e1, e2⟩ := Prod.mk.inj e
      have hk : 0 ≤ s ∧ s ≤ 20 := by
        unfold newOk at y2
        simp only [Bool.and_eq_true] at y2
        have := hok_true y2.2
        omega
      simp only [Bool.and_eq_true, decide_eq_true_eq] at y3
      exact ⟨e2.symm, e1.symm, hk.1, hk.2, by omega, by omega⟩
  obtain ⟨RG, RB, hRG⟩ : ∃ RG RB, made G x c f s = (RG, RB) := ⟨_, _, rfl⟩
  obtain ⟨hno, hyes⟩ := HMD.out RG RB hRG
  rw [hRG]
  have HNO : Hid _ := hno
  have HYES : Hid _ := hyes
  obtain ⟨d, hdd⟩ : ∃ d, drawn G.seed = d := ⟨_, rfl⟩
  rw [hdd] at DR HNO HYES hd
  clear H HMD hRG hno hyes FN BZ hdd
  go_enter Try.func98, Try.ntmps98
  go_wp2_with fail
  go_cut [7] from 9 to 17 (fun v wr => ∃ bk : Nat, v = .pointer (some ⟨bk, 0, none⟩) ∧ Hid (HeadAt wr bk s f c d false false) ∧ Hid (Below w.heap.size w wr))
  case first =>
    refine regH (P := P) (b1 := b1) (b2 := b2) (b3 := b3) (s := s) (f := f) (c := c) (sd := G.seed) (d := d) (by simp) ?_ rfl ⟨_, rfl, rfl, rfl, by simp [Region.binds]⟩ ⟨_, rfl, rfl, rfl, by simp [Region.binds]⟩ ⟨_, rfl, rfl, rfl, by simp [Region.binds]⟩ ⟨_, rfl, rfl, rfl, by simp [Region.binds]⟩ ⟨_, rfl, rfl, rfl, by simp [Region.binds]⟩ ⟨_, rfl, rfl, rfl, by simp [Region.binds]⟩ ⟨_, rfl, rfl, rfl, by simp [Region.binds]⟩ ⟨_, rfl, rfl, rfl, by simp [Region.binds]⟩ ⟨_, rfl, rfl, rfl, by simp [Region.binds]⟩ ⟨_, rfl, rfl, rfl, by simp [Region.binds]⟩ ⟨_, rfl, rfl, rfl, by simp [Region.binds]⟩ (by simp) rfl rfl rfl rfl n1 n2 n3 u4 DR ?_
    · intro k o ho e he
      have hk : k < 11 := (Array.getElem?_eq_some_iff.1 ho).1
      rcases (show k = 0 ∨ k = 1 ∨ k = 2 ∨ k = 3 ∨ k = 4 ∨ k = 5 ∨ k = 6 ∨ k = 7 ∨ k = 8 ∨ k = 9 ∨ k = 10 by omega) with rfl | rfl | rfl | rfl | rfl | rfl | rfl | rfl | rfl | rfl | rfl
      all_goals
        injection ho with ho
        subst ho
        simp at he
        try omega
      all_goals
        first
          | (subst he; decide)
          | (rcases he with rfl | rfl <;> decide)
          | (rcases he with rfl | rfl | rfl <;> decide)
          | (rcases he with rfl | rfl | rfl | rfl <;> decide)
          | (rcases he with rfl | rfl | rfl | rfl | rfl <;> decide)
          | (rcases he with rfl | rfl | rfl | rfl | rfl | rfl <;> decide)
          | (rcases he with rfl | rfl | rfl | rfl | rfl | rfl | rfl | rfl | rfl | rfl | rfl <;> decide)
          | (rcases he with rfl | rfl | rfl | rfl | rfl | rfl | rfl | rfl | rfl | rfl | rfl | rfl <;> decide)
          | (rcases he with rfl | rfl | rfl | rfl | rfl | rfl | rfl | rfl | rfl | rfl | rfl | rfl | rfl <;> decide)
          | (rcases he with rfl | rfl | rfl | rfl | rfl | rfl | rfl | rfl | rfl | rfl | rfl | rfl | rfl | rfl <;> decide)
          | (rcases he with rfl | rfl | rfl | rfl | rfl | rfl | rfl | rfl | rfl | rfl | rfl | rfl | rfl | rfl | rfl <;> decide)
    · rintro u w' B y T hb
      rename_i J K' HJ HK
      exact HK _ _ (Met.intro (HJ _ _ ⟨u 7, u 9, u 10, u 11, u 12, u 13, u 14, u 15, u 16, u 17, ⟨B, y, T, hb⟩, rfl⟩))
  obtain ⟨bk, rfl, HHd, HBc⟩ := hcut
  obtain ⟨W, hW⟩ : ∃ W, W = wc := ⟨_, rfl⟩
  subst hW
  obtain ⟨k0, k1, k2, k3, k4, k5, kf⟩ := headAt_cells HHd.out
  obtain ⟨q1, q2, q3, q4⟩ := HC.out _ HBc.out
  have OH := objectHeadOk_any s f c d false false W
  have HBb : Hid _ := HBc.out.mono hbw
  clear n1 n2 n3 n4 m1 m2 m3 m4 u0 u3 u4 v0 v3 v4 kf DR
  cases d1 : inR 0 5 x
  · obtain ⟨e1, e2⟩ := HNO.out (.inl d1)
    subst e1 e2
    rw [d1] at RT
    have HHc : Hid _ := HB.out _ HBc.out
    clear HNO HYES OH
    go_wp2_with (go_at_call 99; refine (RT _).mono ?_; rintro e w3 ⟨rfl, hw3⟩; rw [hw3]; clear hw3 w3)
    go_ret
    exact ⟨rfl, HHc.out, HBb.out⟩
  rw [d1] at RT
  cases d2 : fok s f c d false false
  · obtain ⟨e1, e2⟩ := HNO.out (.inr (.inl d2))
    subst e1 e2
    rw [d2] at OH
    clear HNO HYES
    go_wp2_with (first | (go_at_call 99; refine (RT _).mono ?_; rintro e w3 ⟨rfl, hw3⟩; rw [hw3]; clear hw3 w3) | (go_at_call 100; refine OH.mono ?_; clear OH; rintro e w3 ⟨rfl, b3⟩; have HB3 : Hid _ := HBc.out.trans (b3.mono HBc.out.size); clear b3))
    go_ret
    exact ⟨rfl, HB.out _ HB3.out, HB3.out.mono hbw⟩
  rw [d2] at OH
  have HHR : Hid (∀ V, Below w.heap.size w V → _) := fun V hV => hasRoom_any (HB.out V hV)
  cases d3 : (decide (G.objs.length < 200) && decide (G.next < 100000))
  · obtain ⟨e1, e2⟩ := HNO.out (.inr (.inr d3))
    subst e1 e2
    rw [d3] at HHR
    clear HNO HYES
    go_wp2_with (first | (go_at_call 99; refine (RT _).mono ?_; rintro e w3 ⟨rfl, hw3⟩; rw [hw3]; clear hw3 w3) | (go_at_call 100; refine OH.mono ?_; clear OH; rintro e w3 ⟨rfl, b3⟩; have HB3 : Hid _ := HBc.out.trans (b3.mono HBc.out.size); clear b3) | (go_at_call 101; refine (HHR.out _ HB3.out).mono ?_; clear HHR; rintro e w4 ⟨rfl, b4⟩; have HB4 : Hid _ := HB3.out.trans (b4.mono HB3.out.size); clear b4 HB3))
    go_ret
    exact ⟨rfl, HB.out _ HB4.out, HB4.out.mono hbw⟩
  rw [d3] at HHR
  obtain ⟨e1, e2, s0, s1, hl3, hN3⟩ := HYES.out ⟨d1, d2, d3⟩
  have HRG : Hid _ := e2
  subst e1
  have i1 : 0 ≤ x ∧ x ≤ 5 := by simpa [inR] using d1
  obtain ⟨k1', rfl⟩ : ∃ k : Nat, x = (k : Int) := ⟨x.toNat, by omega⟩
  obtain ⟨j, rfl⟩ : ∃ j : Nat, s = (j : Int) := ⟨s.toNat, by omega⟩
  have hk1 : (k1' : Int) < 6 := by omega
  simp only [Int.toNat_natCast] at HRG
  have lbk := cell_lt k0
  clear HNO HYES e2 d1 d2 d3 i1
  go_wp2_with (first | (go_at_call 99; refine (RT _).mono ?_; rintro e w3 ⟨rfl, hw3⟩; rw [hw3]; clear hw3 w3) | (go_at_call 100; refine OH.mono ?_; clear OH; rintro e w3 ⟨rfl, b3⟩; have HB3 : Hid _ := HBc.out.trans (b3.mono HBc.out.size); have HD3 : Hid _ := b3; clear b3) | (go_at_call 101; refine (HHR.out _ HB3.out).mono ?_; clear HHR; rintro e w4 ⟨rfl, b4⟩; have HB4 : Hid _ := HB3.out.trans (b4.mono HB3.out.size); have HD4 : Hid _ := HD3.out.trans (b4.mono HD3.out.size); clear b4 HB3 HD3))
  obtain ⟨p1, p2, p3, p4⟩ := HC.out _ HB4.out
  have HH4 := HB.out _ HB4.out
  obtain ⟨a1, c1, u0, u3, u4⟩ := held_cells HH4
  have k3' := (HD4.out.cell (p := ⟨bk, 3, none⟩) lbk).trans k3
  have lw4 : base ≤ w4.heap.size := Nat.le_trans hbw HB4.out.size
  have HH : Hid _ := HH4
  clear k0 k1 k2 k3 k4 k5 q1 q2 q3 q4 HH4 HHd HBc HBb HD4
  go_cut [8] from 31 to 41 (fun v wr => ∃ B q : Nat, v = .pointer (some ⟨B, 0, none⟩) ∧ w4.heap.size ≤ B ∧ w4.heap.size ≤ q ∧ B ≠ q ∧ Hid (Five wr B 72 (.int .i64 G.next) (.int .i64 c) (.int .i64 f) (.int .i64 d) (.slice (some ⟨q, 0, none⟩) j j)) ∧ Hid (OwnR wr w4.heap.size (.slice (some ⟨q, 0, none⟩) j j) (List.replicate j refD)) ∧ Hid (Below w4.heap.size w4 wr))
  case first =>
    refine regO (P := P) (b1 := b1) (b2 := b2) (b3 := b3) (bk := bk) (j := j) (next := G.next) (f := f) (c := c) (d := d) (by omega) (by simp) ?_ rfl ⟨_, rfl, rfl, rfl, by simp [Region.binds]⟩ ⟨_, rfl, rfl, rfl, by simp [Region.binds]⟩ ⟨_, rfl, rfl, rfl, by simp [Region.binds]⟩ ⟨_, rfl, rfl, rfl, by simp [Region.binds]⟩ ⟨_, rfl, rfl, rfl, by simp [Region.binds]⟩ ⟨_, rfl, rfl, rfl, by simp [Region.binds]⟩ ⟨_, rfl, rfl, rfl, by simp [Region.binds]⟩ ⟨_, rfl, rfl, rfl, by simp [Region.binds]⟩ ⟨_, rfl, rfl, rfl, by simp [Region.binds]⟩ ⟨_, rfl, rfl, rfl, by simp [Region.binds]⟩ ⟨_, rfl, rfl, rfl, by simp [Region.binds]⟩ ⟨_, rfl, rfl, rfl, by simp [Region.binds]⟩ ⟨_, rfl, rfl, rfl, by simp [Region.binds]⟩ (by simp) rfl rfl rfl rfl rfl p1 p2 p3 u3 k3' ?_
    · intro k o ho e he
      have hk : k < 13 := (Array.getElem?_eq_some_iff.1 ho).1
      rcases (show k = 0 ∨ k = 1 ∨ k = 2 ∨ k = 3 ∨ k = 4 ∨ k = 5 ∨ k = 6 ∨ k = 7 ∨ k = 8 ∨ k = 9 ∨ k = 10 ∨ k = 11 ∨ k = 12 by omega) with rfl | rfl | rfl | rfl | rfl | rfl | rfl | rfl | rfl | rfl | rfl | rfl | rfl
      all_goals
        injection ho with ho
        subst ho
        simp at he
        try omega
      all_goals
        first
          | (subst he; decide)
          | (rcases he with rfl | rfl <;> decide)
          | (rcases he with rfl | rfl | rfl <;> decide)
          | (rcases he with rfl | rfl | rfl | rfl <;> decide)
          | (rcases he with rfl | rfl | rfl | rfl | rfl <;> decide)
          | (rcases he with rfl | rfl | rfl | rfl | rfl | rfl <;> decide)
          | (rcases he with rfl | rfl | rfl | rfl | rfl | rfl | rfl | rfl | rfl | rfl | rfl <;> decide)
          | (rcases he with rfl | rfl | rfl | rfl | rfl | rfl | rfl | rfl | rfl | rfl | rfl | rfl <;> decide)
          | (rcases he with rfl | rfl | rfl | rfl | rfl | rfl | rfl | rfl | rfl | rfl | rfl | rfl | rfl <;> decide)
          | (rcases he with rfl | rfl | rfl | rfl | rfl | rfl | rfl | rfl | rfl | rfl | rfl | rfl | rfl | rfl <;> decide)
          | (rcases he with rfl | rfl | rfl | rfl | rfl | rfl | rfl | rfl | rfl | rfl | rfl | rfl | rfl | rfl | rfl <;> decide)
    · rintro u w' B q y hB hq hBq T O hb
      rename_i J K' HJ HK
      exact HK _ _ (Met.intro (HJ _ _ ⟨u 8, u 31, u 32, u 33, u 34, u 35, u 36, u 37, u 38, u 39, u 40, u 41, ⟨B, q, y, hB, hq, hBq, T, O, hb⟩, rfl⟩))
  obtain ⟨B, q, rfl, hB, hq, hBq, HF, HOR, HB5⟩ := hcut
  obtain ⟨X, hX⟩ : ∃ X, X = wc := ⟨_, rfl⟩
  subst hX
  obtain ⟨o, r, m, ms, T4, O4, N4, hb⟩ := HH.out
  obtain ⟨o1, o2, o3, r1, r2, r3, m1', m2', m3', e1, e2, e3⟩ := graphAt_slices (ownG_at O4)
  subst e1 e2 e3
  have lP := lt_of_block T4
  have sX := HB5.out.size
  have L4 := ownG_lt O4
  have T := five_below T4 HB5.out
  obtain ⟨z0, _, _, _, _, _⟩ := five_cells T
  obtain ⟨g0, g1, g2, g3, g4, _⟩ := five_cells HF.out
  have BX1 : Below X.heap.size X (X.alloc (.cells #[.int .i64 G.next, .int .i64 c, .int .i64 f, .int .i64 d, .slice (some ⟨q, 0, none⟩) j j] 72)) := (Below.refl _ _).alloc (Nat.le_refl _) _
  have BX3 := BX1.drew
  have y0 := (BX1.cell (p := ⟨P, 0, none⟩) (by show P < X.heap.size; omega)).trans z0
  have HNW : Hid (∀ i u, (cellsO [(⟨G.next, c, f, d, .slice (some ⟨q, 0, none⟩) j j, List.replicate j refD⟩ : MO)])[i]? = some u → (X.alloc (.cells #[.int .i64 G.next, .int .i64 c, .int .i64 f, .int .i64 d, .slice (some ⟨q, 0, none⟩) j j] 72)).drew.cell? ((⟨X.heap.size, 0, none⟩ : Addr).add i) = some u) := World.news_of_block (heap_alloc_new X (.cells #[.int .i64 G.next, .int .i64 c, .int .i64 f, .int .i64 d, .slice (some ⟨q, 0, none⟩) j j] 72))
  have HON : Hid (∀ u ∈ cellsO [(⟨G.next, c, f, d, .slice (some ⟨q, 0, none⟩) j j, List.replicate j refD⟩ : MO)], u.oneCell' = true) := cellsO_one (fun m hm => by rw [List.mem_singleton] at hm; rw [hm]; exact ⟨_, _, _, rfl⟩)
  have O5 := ownG_below (ownG_below O4 HB5.out) BX3
  have T5 := five_below T BX3
  have F5 := five_below HF.out BX3
  have R5 := ownR_base (ownR_below HOR.out BX3) lw4
  have HROW : Hid _ := O5.2.1.1
  have hBo : B ∉ blk (.slice o1 o2 o3) := fun e => by
    have := (L4 B (by simp only [gblk, List.mem_append]; exact .inl (.inl (.inl e)))).2
    omega
  have hBP : B ≠ P := by omega
  have HAPP : Hid (∀ (v' : Value) (w10 : World), w10.ownsRow base 72 5 v' (ms.length + 1) (cellsO ms ++ cellsO [(⟨G.next, c, f, d, .slice (some ⟨q, 0, none⟩) j j, List.replicate j refD⟩ : MO)]) → (X.alloc (.cells #[.int .i64 G.next, .int .i64 c, .int .i64 f, .int .i64 d, .slice (some ⟨q, 0, none⟩) j j] 72)).drew.grownBy w10 (Value.slice o1 o2 o3).ownBlock → (v'.ownBlock = (Value.slice o1 o2 o3).ownBlock ∨ v'.ownBlock = some (X.alloc (.cells #[.int .i64 G.next, .int .i64 c, .int .i64 f, .int .i64 d, .slice (some ⟨q, 0, none⟩) j j] 72)).drew.heap.size) → (w10.cell? ⟨P, 0, none⟩ = some (.slice o1 o2 o3) ∧ w10.frozen? ⟨P, 0, none⟩ = false ∧ Held (w10.setCell ⟨P, 0, none⟩ v') base P { G with objs := G.objs ++ [⟨G.next, c, f, d, List.replicate j refD⟩] } ∧ Below base (X.alloc (.cells #[.int .i64 G.next, .int .i64 c, .int .i64 f, .int .i64 d, .slice (some ⟨q, 0, none⟩) j j] 72)).drew (w10.setCell ⟨P, 0, none⟩ v')) ∧ Five (w10.setCell ⟨P, 0, none⟩ v') B 72 (.int .i64 G.next) (.int .i64 c) (.int .i64 f) (.int .i64 d) (.slice (some ⟨q, 0, none⟩) j j)) := fun v' w10 h1 h2 h3 => ⟨held_app (m1 := (⟨G.next, c, f, d, .slice (some ⟨q, 0, none⟩) j j, List.replicate j refD⟩ : MO)) T5 O5 N4 hb R5 (fun k hk e => by
      have hk : k ∈ blk (.slice (some ⟨q, 0, none⟩) j j) := hk
      rw [blk_some, List.mem_singleton] at hk
      have := (L4 k e).2
      omega) (fun e => by
      have e : P ∈ blk (.slice (some ⟨q, 0, none⟩) j j) := e
      rw [blk_some, List.mem_singleton] at e
      omega) h1 h2 h3, five_ch (five_ch F5 (ch_grown h2) hBo) (one_ch w10 P 0 v') (fun e => hBP (List.mem_singleton.1 e))⟩
  have hml : ms.length ≤ 200 := by have := own_len O4; omega
  have hbX3 : base ≤ (X.alloc (.cells #[.int .i64 G.next, .int .i64 c, .int .i64 f, .int .i64 d, .slice (some ⟨q, 0, none⟩) j j] 72)).drew.heap.size := Nat.le_trans (Nat.le_trans lw4 sX) BX3.size
  have HBX3 : Hid _ := (HB4.out.mono hbw).trans ((HB5.out.mono lw4).trans (BX3.mono (Nat.le_trans lw4 sX)))
  obtain ⟨i1', hi', hz0', hz1', hz2'⟩ := info_parts infoO
  have HI' : Hid _ := And.intro hi' (And.intro hz0' (And.intro hz1' hz2'))
  have HL4 : Hid _ := L4
  clear hi' hz0' hz1' hz2' T4 O4 N4 T L4 BX1 BX3 O5 T5 F5 R5 HOR HF HB4 HB5 HH p1 p2 p3 p4 u0 u3 u4 k3'
  go_wp2_with fail
  go_cut [] from 42 to 51 (fun wr => Hid (Held wr base P { G with objs := G.objs ++ [⟨G.next, c, f, d, List.replicate j refD⟩] }) ∧ Hid (Five wr B 72 (.int .i64 G.next) (.int .i64 c) (.int .i64 f) (.int .i64 d) (.slice (some ⟨q, 0, none⟩) j j)) ∧ Hid (Below base w wr))
  case first =>
    go_region_law (refine step_append_own_at rfl (.tmp 46) (.tmp 48) 52 rfl base 72 i1' (.agg #[.int .i64 0, .int .i64 0, .int .i64 0, .int .i64 0, .slice none 0 0]) 5 56 Try.underlying52 HI'.out.1 HI'.out.2.1 HI'.out.2.2.1 HI'.out.2.2.2 rfl (by decide) (.slice o1 o2 o3) ms.length (cellsO ms) rfl HROW.out ⟨X.heap.size, 0, none⟩ 1 1 (cellsO [(⟨G.next, c, f, d, .slice (some ⟨q, 0, none⟩) j j, List.replicate j refD⟩ : MO)]) rfl rfl HNW.out HON.out (by unfold maxLen; omega) (by omega) hbX3 ?_; intro v' w10 hrow hg hat; obtain ⟨gg, cc, rfl⟩ := ownRow_form5 hrow (by omega); obtain ⟨⟨pp0, pf, hh, bb⟩, ff⟩ := HAPP.out _ w10 hrow hg hat; have HHA : Hid _ := hh; have HBA : Hid _ := HBX3.out.trans bb; have HFA : Hid _ := ff; clear hrow hg hat hh bb ff)
    all_goals go_wp2
    all_goals go_meet
    all_goals exact ⟨HHA, HFA, bel_two HBA.out⟩
  obtain ⟨HHA, HFA, HBA⟩ := hcut
  obtain ⟨Z, hZ⟩ : ∃ Z, Z = wc := ⟨_, rfl⟩
  subst hZ
  obtain ⟨o', r', m', ns, T6, O6, N6, _⟩ := HHA.out
  have h6' : ({ G with objs := G.objs ++ [⟨G.next, c, f, d, List.replicate j refD⟩] } : Gr).roots.length = 6 := h6
  obtain ⟨qr, cr, rfl⟩ := ownR_form O6.2.2.1 (by omega)
  obtain ⟨y1, y2⟩ := ownR_cell O6.2.2.1 (i := k1') (by omega)
  obtain ⟨_, z1, _, z3, _, _⟩ := five_cells T6
  rw [h6'] at z1
  have fz0 := row_frozen O6.2.2.1 (k1' * 2)
  have fz1 := row_frozen O6.2.2.1 (k1' * 2 + 1)
  have hne := own_ne O6.2.2.1 HFA.out
  obtain ⟨hr, br⟩ := held_setRoot T6 O6 N6 hb k1' (2, G.next)
  obtain ⟨n3', nf3', hn', bn'⟩ := held_next hr (G.next + 1)
  obtain ⟨⟨vs, n4'⟩, nf4', hs', bs'⟩ := held_seed hn' d
  obtain ⟨t0, _, _, t3, _, _⟩ := five_cells HFA.out
  have F7 := five_ch (five_ch HFA.out (put2_ch Z qr k1' (2, G.next)) (fun e => hne (List.mem_singleton.1 e))) (one_ch _ P 3 (.int .i64 (G.next + 1))) (fun e => hBP (List.mem_singleton.1 e))
  obtain ⟨_, _, _, t3', _, _⟩ := five_cells F7
  have q4 := (HBA.out.cell (p := ⟨b4, 0, none⟩) l4).trans ((HC.out w (Below.refl _ _)).2.2.2)
  have HHF : Hid _ := hs'
  have HBF : Hid _ := ((HBA.out.trans br).trans bn').trans bs'
  simp only at z3 n3'
  clear T6 O6 N6 hne hr br hn' bn' hs' bs' F7 HFA HHA HBA HAPP HROW HNW HON HL4 hBo y0 z0 g0 g1 g2 g3 g4
  go_wp2_with fail
  go_region_law (fail)
  all_goals go_wp2
  all_goals go_ret
  all_goals exact ⟨rfl, by rw [HRG.out]; exact HHF.out, bel_two HBF.out⟩
end Go.Proofs.Ytdogibjgogcdkab.gr
