/-
  Chapter 11 as the program has it: all is carried.
  Made from the template ScavI9 (mkscavi9.py).
-/
import Derived.Test.YtmhbdmmpmagbkaaGreatM9
namespace Go.Proofs.YtmhbdmmpmagbkaaGreat.hp
open Go.RowKit rows heads words walks region Go.Maps
set_option maxRecDepth 100000
set_option linter.unusedVariables false
set_option linter.unusedSimpArgs false

/-- The jobs of carryAll: N lists from outside, then what is carried, up to M; job i has len i words from the cell o i of the block g i on. -/
structure Plan (C LB N M : Nat) (len g o gn rv : Nat → Nat) (St : Nat → Nat → World → Prop) : Prop where
  grow : ∀ i j W W', Below W.heap.size W W' → St i j W → St i j W'
  word : ∀ i j W, i < M → St i j W → j < len i → ∃ x, W.cell? ⟨g i, o i + j, none⟩ = some (.int .i64 x) ∧ Calls Tryz.prog 103 #[.pointer (some ⟨C, 0, none⟩), .int .i64 x] W (fun e w' => ∃ y z, e = .returned (.int .i64 y) ∧ w'.cell? ⟨g i, o i + j, none⟩ = some (.int .i64 z) ∧ w'.frozen? ⟨g i, o i + j, none⟩ = false ∧ St i (j + 1) (w'.setCell ⟨g i, o i + j, none⟩ (.int .i64 y)))
  next : ∀ i W, i < M → St i (len i) W → St (i + 1) 0 W
  list : ∀ i W, i < N → St i 0 W → ∃ a c, W.cell? ⟨LB, i, none⟩ = some (.slice a (len i) c) ∧ (0 < len i → a = some ⟨g i, o i, none⟩) ∧ len i ≤ c ∧ c ≤ 1000
  room : ∀ i W, (i = 0 ∨ N ≤ i) → i ≤ M → St i 0 W → ∃ (h1 h2 h3 h4 h5 : Int) (a1 a2 a3 a4 : Option Addr) (n1 n2 n3 n4 k1 k2 k3 k4 : Nat), (W.cell? ⟨C, 11, none⟩ = some (.int .i64 h1) ∧ W.cell? ⟨C, 12, none⟩ = some (.int .i64 h2) ∧ W.cell? ⟨C, 13, none⟩ = some (.slice a1 n1 k1) ∧ W.cell? ⟨C, 14, none⟩ = some (.int .i64 h3) ∧ W.cell? ⟨C, 15, none⟩ = some (.int .i64 h4) ∧ W.cell? ⟨C, 16, none⟩ = some (.slice a2 n2 k2) ∧ W.cell? ⟨C, 17, none⟩ = some (.slice a3 n3 k3) ∧ W.cell? ⟨C, 18, none⟩ = some (.slice a4 n4 k4) ∧ W.cell? ⟨C, 19, none⟩ = some (.int .i64 h5)) ∧ Calls Tryz.prog 101 #[.agg #[.int .i64 h1, .int .i64 h2, .slice a1 n1 k1, .int .i64 h3, .int .i64 h4, .slice a2 n2 k2, .slice a3 n3 k3, .slice a4 n4 k4, .int .i64 h5]] W (fun e w' => e = .returned (.int .i64 (rv i : Int)) ∧ Below W.heap.size W w')
  more : ∀ i W, N ≤ i → i < M → St i 0 W → Calls Tryz.prog 102 #[.pointer (some ⟨C, 0, none⟩), .int .i64 (gn i : Int)] W (fun e w' => ∃ a c, e = .returned (.tuple #[.slice a (len i) c, .int .i64 ((gn (i + 1) : Int) - (gn i : Int))]) ∧ (0 < len i → a = some ⟨g i, o i, none⟩) ∧ len i ≤ c ∧ c ≤ 1000 ∧ Below W.heap.size W w')
  rv0 : rv 0 = gn N
  rvM : rv M = gn M
  rvi : ∀ i, N ≤ i → i < M → rv i ≠ gn i
  gle : ∀ i, i ≤ M → gn i ≤ 1000
  lenle : ∀ i, i < M → len i ≤ 1000
  NM : N ≤ M
  N0 : 0 < N
  M1 : M ≤ 2000
def jL (C N M : Nat) (len g o gn rv : Nat → Nat) (Post : World → Prop) (n : Nat) (a : Act) (W : World) : Prop := ∃ (LB : Nat) (St : Nat → Nat → World → Prop) (i j ln lc wn wc : Nat) (gg : Int) (la wa : Option Addr) (u3 u6 u7 u8 u9 u10 u11 u12 u13 u14 u15 u16 u17 u18 u19 u20 u21 u22 u23 u24 u25 u26 u27 u28 u29 u30 u31 u32 u33 u34 u35 u36 u37 u38 u39 u40 u41 u42 u43 u44 u45 u46 u47 u48 : Value), Hid (Plan C LB N M len g o gn rv St ∧ (∀ W, St M 0 W → Post W)) ∧ Hid (i ≤ M ∧ n = 1004 * (M - i) + 1002 ∧ St i 0 W ∧ ln = N - i ∧ gg = (gn (max N i) : Int) ∧ (i < N → la = some ⟨LB, i, none⟩) ∧ N - i ≤ lc ∧ lc ≤ 9223372036854775807) ∧ a = ⟨#[.pointer (some ⟨C, 0, none⟩), undef, .slice wa wn wc, u3, .slice la ln lc, .int .i64 gg, u6, u7, u8, u9, u10, u11, u12, u13, u14, u15, u16, u17, u18, u19, u20, u21, u22, u23, u24, u25, u26, u27, u28, u29, u30, u31, u32, u33, u34, u35, u36, u37, u38, u39, u40, u41, u42, u43, u44, u45, u46, u47, u48], []⟩
def jC (C N M : Nat) (len g o gn rv : Nat → Nat) (Post : World → Prop) (n : Nat) (a : Act) (W : World) : Prop := ∃ (LB : Nat) (St : Nat → Nat → World → Prop) (i j ln lc wn wc : Nat) (gg : Int) (la wa : Option Addr) (u3 u6 u7 u8 u9 u10 u11 u12 u13 u14 u15 u16 u17 u18 u19 u20 u21 u22 u23 u24 u25 u26 u27 u28 u29 u30 u31 u32 u33 u34 u35 u36 u37 u38 u39 u40 u41 u42 u43 u44 u45 u46 u47 u48 : Value), Hid (Plan C LB N M len g o gn rv St ∧ (∀ W, St M 0 W → Post W)) ∧ Hid (N ≤ i ∧ i ≤ M ∧ n = 1004 * (M - i) + 1001 ∧ St i 0 W ∧ ln = 0 ∧ gg = (gn i : Int) ∧ lc ≤ 9223372036854775807) ∧ a = ⟨#[.pointer (some ⟨C, 0, none⟩), undef, .slice wa wn wc, u3, .slice la ln lc, .int .i64 gg, u6, u7, u8, u9, u10, u11, u12, u13, u14, u15, u16, u17, u18, u19, u20, u21, u22, u23, u24, u25, u26, u27, u28, u29, u30, u31, u32, u33, u34, u35, u36, u37, u38, u39, u40, u41, u42, u43, u44, u45, u46, u47, u48], []⟩
def jW (C N M : Nat) (len g o gn rv : Nat → Nat) (Post : World → Prop) (n : Nat) (a : Act) (W : World) : Prop := ∃ (LB : Nat) (St : Nat → Nat → World → Prop) (i j ln lc wn wc : Nat) (gg : Int) (la wa : Option Addr) (u3 u6 u7 u8 u9 u10 u11 u12 u13 u14 u15 u16 u17 u18 u19 u20 u21 u22 u23 u24 u25 u26 u27 u28 u29 u30 u31 u32 u33 u34 u35 u36 u37 u38 u39 u40 u41 u42 u43 u44 u45 u46 u47 u48 : Value), Hid (Plan C LB N M len g o gn rv St ∧ (∀ W, St M 0 W → Post W)) ∧ Hid (i < M ∧ j ≤ len i ∧ n = 1004 * (M - i) + (len i - j) ∧ St i j W ∧ wn = len i - j ∧ ln = N - (i + 1) ∧ gg = (gn (max N (i + 1)) : Int) ∧ (j < len i → wa = some ⟨g i, o i + j, none⟩) ∧ len i - j ≤ wc ∧ wc ≤ 1000 ∧ (i + 1 < N → la = some ⟨LB, i + 1, none⟩) ∧ N - (i + 1) ≤ lc ∧ lc ≤ 9223372036854775807) ∧ a = ⟨#[.pointer (some ⟨C, 0, none⟩), undef, .slice wa wn wc, u3, .slice la ln lc, .int .i64 gg, u6, u7, u8, u9, u10, u11, u12, u13, u14, u15, u16, u17, u18, u19, u20, u21, u22, u23, u24, u25, u26, u27, u28, u29, u30, u31, u32, u33, u34, u35, u36, u37, u38, u39, u40, u41, u42, u43, u44, u45, u46, u47, u48], []⟩
set_option maxHeartbeats 32000000 in
theorem carryAll_plan {C N M : Nat} {len g o gn rv : Nat → Nat} {Post : World → Prop} {w : World}
    (start : Calls Tryz.prog 100 #[.pointer (some ⟨C, 0, none⟩)] w fun e w' => ∃ (LB lc : Nat) (St : Nat → Nat → World → Prop), e = .returned (.slice (some ⟨LB, 0, none⟩) N lc) ∧ N ≤ lc ∧ lc ≤ 9223372036854775807 ∧ Plan C LB N M len g o gn rv St ∧ (∀ W, St M 0 W → Post W) ∧ St 0 0 w') :
    Calls Tryz.prog 74 #[.pointer (some ⟨C, 0, none⟩)] w fun e w' => e = .returned (.tuple #[]) ∧ Post w' := by
  go_enter Tryz.func74, Tryz.ntmps74
  try go_wp2
  refine wp_scope_three rfl rfl rfl (jC C N M len g o gn rv Post) (jL C N M len g o gn rv Post) (jW C N M len g o gn rv Post) ?_ ?_ ?_ (1004 * M + 1003) ?_
  · rintro n B a W hn ⟨LB, St, i, j, ln, lc, wn, wc, gg, la, wa, u3, u6, u7, u8, u9, u10, u11, u12, u13, u14, u15, u16, u17, u18, u19, u20, u21, u22, u23, u24, u25, u26, u27, u28, u29, u30, u31, u32, u33, u34, u35, u36, u37, u38, u39, u40, u41, u42, u43, u44, u45, u46, u47, u48, HP, HS, rfl⟩
    clear start
    dsimp only
    obtain ⟨pl, hPost⟩ := HP.out
    obtain ⟨hiM, hjl, hnn, hSt, hwn, hln, hgg, hwa, hwc, hwc1, hla, hlc, hlc1⟩ := HS.out
    have HEQ : Hid (ln = N - (i + 1) ∧ gg = (gn (max N (i + 1)) : Int)) := ⟨hln, hgg⟩
    clear hln hgg
    have HLA : Hid _ := hla
    by_cases hlt : j < len i
    · obtain ⟨x, z, LD⟩ := pl.word i j W hiM hSt hlt
      have e1 := hwa hlt
      subst e1
      obtain ⟨wl, hwl⟩ : ∃ wl, len i - j = wl + 1 := ⟨len i - j - 1, by omega⟩
      have HWL : Hid _ := hwl
      have hle := pl.lenle i hiM
      rw [hwl] at hwn
      subst hwn
      have hwc2 : wl + 1 ≤ wc := by omega
      have hne : ¬ ((wl + 1 : Nat) : Int) = 0 := by omega
      clear hwl hla hwa hwc hjl hSt HS hPost pl hlt hle
      go_wp2_with (go_at_call 103; refine LD.mono ?_; clear LD z; rintro e w3 ⟨y, zz, rfl, z, zf, s3⟩; have HS3 : Hid _ := s3; clear s3)
      all_goals go_step3
      all_goals
        have e2 : wl = len i - (j + 1) := by have := HWL.out; omega
        have hl2 := HLA.out
        obtain ⟨q1, q2⟩ := HEQ.out
      · exact ⟨1004 * (M - i) + (len i - (j + 1)), by have := HWL.out; omega, .inr (.inr ⟨rfl, LB, St, i, j + 1, ln, lc, _, 0, gg, la, _, _, _, _, _, _, _, _, _, _, _, _, _, _, _, _, _, _, _, _, _, _, _, _, _, _, _, _, _, _, _, _, _, _, _, _, _, _, _, _, _, _, _, _, _, HP, ⟨hiM, by have := HWL.out; omega, rfl, HS3.out, e2, q1, q2, fun h => absurd h (by omega), by omega, by omega, hl2, hlc, hlc1⟩, rfl⟩)⟩
      · exact ⟨1004 * (M - i) + (len i - (j + 1)), by have := HWL.out; omega, .inr (.inr ⟨rfl, LB, St, i, j + 1, ln, lc, _, wc - 1, gg, la, _, _, _, _, _, _, _, _, _, _, _, _, _, _, _, _, _, _, _, _, _, _, _, _, _, _, _, _, _, _, _, _, _, _, _, _, _, _, _, _, _, _, _, _, _, HP, ⟨hiM, by have := HWL.out; omega, rfl, HS3.out, e2, q1, q2, fun h => rfl, by omega, by omega, hl2, hlc, hlc1⟩, rfl⟩)⟩
    · have hz : len i - j = 0 := by omega
      have hji : j = len i := by omega
      have HN : Hid _ := pl.next i W hiM (hji ▸ hSt)
      rw [hz] at hwn
      subst hwn
      obtain ⟨q1, q2⟩ := HEQ.out
      have HQ1 : Hid _ := q1
      have HQ2 : Hid _ := q2
      clear hwa hla hSt pl hPost HS q1 q2 HEQ
      go_wp2_with fail
      go_step3
      exact ⟨1004 * (M - (i + 1)) + 1002, by omega, .inr (.inl ⟨rfl, LB, St, i + 1, j, ln, lc, 0, wc, gg, la, wa, _, _, _, _, _, _, _, _, _, _, _, _, _, _, _, _, _, _, _, _, _, _, _, _, _, _, _, _, _, _, _, _, _, _, _, _, _, _, _, _, _, _, _, _, HP, ⟨hiM, rfl, HN.out, HQ1.out, HQ2.out, HLA.out, hlc, hlc1⟩, rfl⟩)⟩
  · intro P2
    rintro n B a W hn ⟨LB, St, i, j, ln, lc, wn, wc, gg, la, wa, u3, u6, u7, u8, u9, u10, u11, u12, u13, u14, u15, u16, u17, u18, u19, u20, u21, u22, u23, u24, u25, u26, u27, u28, u29, u30, u31, u32, u33, u34, u35, u36, u37, u38, u39, u40, u41, u42, u43, u44, u45, u46, u47, u48, HP, HS, rfl⟩
    clear start
    dsimp only
    obtain ⟨pl, hPost⟩ := HP.out
    obtain ⟨hNi, hiM, hnn, hSt, hln, hgg, hlc1⟩ := HS.out
    subst hln hgg
    obtain ⟨h1, h2, h3, h4, h5, a1, a2, a3, a4, n1, n2, n3, n4, k1, k2, k3, k4, ⟨z0, z1, z2, z3, z4, z5, z6, z7, z8⟩, RE⟩ := pl.room i W (.inr hNi) hiM hSt
    have HGR : Hid (∀ W', Below W.heap.size W W' → St i 0 W') := fun W' hW => pl.grow i 0 W W' hW hSt
    by_cases hlt : i < M
    · have hne : ¬ (gn i : Int) = (rv i : Int) := by have := pl.rvi i hNi hlt; omega
      have HMO : Hid _ := pl.more i
      have hg1 := pl.gle i hiM
      have hle := pl.lenle i hlt
      have hg2 := pl.gle (i + 1) hlt
      clear HS hSt pl hPost
      go_upto_region 7 with (go_at_call 101; refine RE.mono ?_; clear RE z0 z1 z2 z3 z4 z5 z6 z7 z8; rintro e w3 ⟨rfl, b3⟩; have HB3 : Hid _ := b3; clear b3)
      have hS3 := HGR.out w3 HB3.out
      have MO := HMO.out w3 hNi hlt hS3
      have HG3 : Hid (∀ W', Below w3.heap.size w3 W' → St i 0 W') := fun W' hW => HGR.out W' (HB3.out.trans (hW.mono HB3.out.size))
      clear HGR HB3 hS3 HMO
      go_wp2_with (go_at_call 102; refine MO.mono ?_; clear MO; rintro e w4 ⟨wa2, wc2, rfl, hwa2, hwc2, hwc3, b4⟩; have HS4 : Hid _ := HG3.out w4 b4; have HWA2 : Hid _ := hwa2; clear hwa2 b4 HG3)
      go_step3
      rename_i hK
      refine hK _ _ (P2 (1004 * (M - i) + (len i - 0)) B _ _ (by omega) ⟨LB, St, i, 0, 0, lc, _, wc2, (gn i : Int) + ((gn (i + 1) : Int) - (gn i : Int)), la, wa2, _, _, _, _, _, _, _, _, _, _, _, _, _, _, _, _, _, _, _, _, _, _, _, _, _, _, _, _, _, _, _, _, _, _, _, _, _, _, _, _, _, _, _, _, HP, ⟨hlt, Nat.zero_le _, rfl, HS4.out, rfl, by omega, by rw [show max N (i + 1) = i + 1 by omega]; omega, HWA2.out, hwc2, hwc3, fun h => absurd h (by omega), by omega, hlc1⟩, rfl⟩)
    · obtain rfl : i = M := by omega
      have hrv := pl.rvM
      rw [hrv] at RE
      have HPO : Hid _ := hPost
      clear HS hSt pl hPost hrv
      go_wp2_with (go_at_call 101; refine RE.mono ?_; clear RE z0 z1 z2 z3 z4 z5 z6 z7 z8; rintro e w3 ⟨rfl, b3⟩; have HB3 : Hid _ := b3; clear b3)
      simp only [jumpsTo]
      exact bodyPost_ret (v := .tuple #[]) (results_none rfl _ _ _) rfl ⟨rfl, HPO.out _ (HGR.out _ HB3.out)⟩
  · rintro n B a W hn ⟨LB, St, i, j, ln, lc, wn, wc, gg, la, wa, u3, u6, u7, u8, u9, u10, u11, u12, u13, u14, u15, u16, u17, u18, u19, u20, u21, u22, u23, u24, u25, u26, u27, u28, u29, u30, u31, u32, u33, u34, u35, u36, u37, u38, u39, u40, u41, u42, u43, u44, u45, u46, u47, u48, HP, HS, rfl⟩
    clear start
    dsimp only
    obtain ⟨pl, hPost⟩ := HP.out
    obtain ⟨hiM, hnn, hSt, hln, hgg, hla, hlc, hlc1⟩ := HS.out
    by_cases hlt : i < N
    · obtain ⟨a, c, z, ha, hc, hc1⟩ := pl.list i W hlt hSt
      have e1 := hla hlt
      subst e1
      obtain ⟨ll, hll⟩ : ∃ ll, N - i = ll + 1 := ⟨N - i - 1, by omega⟩
      have HLL : Hid _ := hll
      rw [hll] at hln
      subst hln
      have hne : ¬ ((ll + 1 : Nat) : Int) = 0 := by omega
      have hlc2 : ll + 1 ≤ lc := by omega
      have HG : Hid (∀ W', Below W.heap.size W W' → St i 0 W') := fun W' hW => pl.grow i 0 W W' hW hSt
      have HA : Hid _ := ha
      have hNM := pl.NM
      have hle := pl.lenle i (by omega)
      have HGG : Hid (gg = (gn (max N (i + 1)) : Int)) := by show _ = _; rw [hgg, show max N i = max N (i + 1) by omega]
      clear hll HS hSt pl hPost hla ha hgg
      go_wp2_with fail
      go_quiet (fail)
      have HBD : Hid (Below W.heap.size W (W.drewN nq)) := bel_of_drewN ⟨_, rfl⟩
      generalize W.drewN nq = Z1 at *
      go_wp2_with fail
      all_goals go_step3
      all_goals have e2 : ll = N - (i + 1) := by have := HLL.out; omega
      · exact ⟨1004 * (M - i) + (len i - 0), by omega, .inr (.inr ⟨rfl, LB, St, i, 0, _, 0, _, c, gg, _, a, _, _, _, _, _, _, _, _, _, _, _, _, _, _, _, _, _, _, _, _, _, _, _, _, _, _, _, _, _, _, _, _, _, _, _, _, _, _, _, _, _, _, _, _, HP, ⟨by omega, Nat.zero_le _, rfl, HG.out _ HBD.out, rfl, e2, HGG.out, HA.out, hc, hc1, fun h => absurd h (by omega), by omega, by omega⟩, rfl⟩)⟩
      · exact ⟨1004 * (M - i) + (len i - 0), by omega, .inr (.inr ⟨rfl, LB, St, i, 0, _, lc - 1, _, c, gg, _, a, _, _, _, _, _, _, _, _, _, _, _, _, _, _, _, _, _, _, _, _, _, _, _, _, _, _, _, _, _, _, _, _, _, _, _, _, _, _, _, _, _, _, _, _, HP, ⟨by omega, Nat.zero_le _, rfl, HG.out _ HBD.out, rfl, e2, HGG.out, HA.out, hc, hc1, fun h => rfl, by omega, by omega⟩, rfl⟩)⟩
    · have hz : N - i = 0 := by omega
      rw [hz] at hln
      subst hln
      have HGG : Hid (gg = (gn i : Int)) := by show _ = _; rw [hgg, show max N i = i by omega]
      have HSt : Hid _ := hSt
      clear HS hSt pl hPost hgg hla
      go_wp2_with fail
      go_step3
      exact ⟨1004 * (M - i) + 1001, by omega, .inl ⟨rfl, LB, St, i, j, 0, lc, _, _, gg, la, _, _, _, _, _, _, _, _, _, _, _, _, _, _, _, _, _, _, _, _, _, _, _, _, _, _, _, _, _, _, _, _, _, _, _, _, _, _, _, _, _, _, _, _, _, HP, ⟨by omega, hiM, rfl, HSt.out, rfl, HGG.out, hlc1⟩, rfl⟩⟩
  · intro P1
    go_upto_region 3 with (go_at_call 100; (refine start.mono ?_; clear start; rintro e w1 ⟨LB, lc, St, rfl, hlc, hlc1, hpl, hpo, hs0⟩; have HPL : Hid (Plan C LB N M len g o gn rv St) := hpl; have HPO : Hid (∀ W, St M 0 W → Post W) := hpo; have HS0 : Hid _ := hs0; clear hpl hpo hs0))
    obtain ⟨h1, h2, h3, h4, h5, a1, a2, a3, a4, n1, n2, n3, n4, k1, k2, k3, k4, ⟨z0, z1, z2, z3, z4, z5, z6, z7, z8⟩, RE⟩ := HPL.out.room 0 w1 (.inl rfl) (Nat.zero_le _) HS0.out
    rw [HPL.out.rv0] at RE
    go_wp2_with (go_at_call 101; refine RE.mono ?_; clear RE z0 z1 z2 z3 z4 z5 z6 z7 z8; rintro e w3 ⟨rfl, b3⟩; have HB3 : Hid _ := b3; clear b3)
    go_step3
    rename_i hK
    have hgr := HPL.out.grow 0 0 w1 w3 HB3.out HS0.out
    have hN0 := HPL.out.N0
    have hM1 := HPL.out.M1
    exact hK _ _ (P1 (1004 * (M - 0) + 1002) _ _ _ (by omega) ⟨LB, St, 0, 0, N, lc, 0, 0, _, some ⟨LB, 0, none⟩, none, _, _, _, _, _, _, _, _, _, _, _, _, _, _, _, _, _, _, _, _, _, _, _, _, _, _, _, _, _, _, _, _, _, _, _, _, _, _, _, _, _, _, _, _, ⟨HPL.out, HPO.out⟩, ⟨Nat.zero_le _, rfl, hgr, rfl, by rw [Nat.max_zero], fun _ => rfl, by omega, hlc1⟩, rfl⟩)
end Go.Proofs.YtmhbdmmpmagbkaaGreat.hp
