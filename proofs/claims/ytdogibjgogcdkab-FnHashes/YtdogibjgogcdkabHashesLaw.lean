/-
  The walk of the law FnHashes, given what the program's Draw answers.
  Made from the template HashesLaw.
-/
import Derived.Test.YtdogibjgogcdkabClassD
import Derived.Test.YtdogibjgogcdkabDrawMore
import Derived.Deep.RegionLaw
namespace Go.Proofs.Ytdogibjgogcdkab.draw
open Go.RowKit rows heads ents

/-- The sums 1 + q + q² + .., as the hash steps have them. -/
def sm : Nat → Nat
  | 0 => 0
  | n + 1 => (25173 * sm n + 1) % 65536
def hstep (x : Nat) : Nat := (25173 * x + 13849) % 65536
def iter : Nat → Nat → Nat
  | 0, x => x
  | n + 1, x => hstep (iter n x)
def far : Nat → Nat → Bool
  | 0, _ => true
  | k + 1, s => ((25173 * s + 1) % 65536 != 0) && far k ((25173 * s + 1) % 65536)
theorem far_at : ∀ k n, far k (sm n) = true → ∀ j, j < k → sm (n + j + 1) ≠ 0
  | 0, _, _, j, h => by omega
  | k + 1, n, h, j, hj => by
    unfold far at h
    rw [Bool.and_eq_true, bne_iff_ne] at h
    rcases Nat.eq_zero_or_pos j with rfl | hp
    · exact h.1
    · have := far_at k (n + 1) h.2 (j - 1) (by omega)
      rwa [show n + 1 + (j - 1) + 1 = n + j + 1 by omega] at this
theorem far_all : far 300 0 = true := by decide +kernel
theorem sm_lt (n : Nat) : sm n < 65536 := by
  cases n
  · decide
  · exact Nat.mod_lt _ (by decide)
theorem iter_lt {x : Nat} (h : x < 65536) (n : Nat) : iter n x < 65536 := by
  cases n
  · exact h
  · exact Nat.mod_lt _ (by decide)
theorem iter_is (x : Nat) : ∀ n, iter n x % 65536 = (x + sm n * (25172 * x + 13849)) % 65536
  | 0 => by simp [iter, sm]
  | n + 1 => by
    have ih := iter_is x n
    have h1 : iter (n + 1) x % 65536 = (25173 * (iter n x % 65536) + 13849) % 65536 := by
      show (25173 * iter n x + 13849) % 65536 % 65536 = _
      omega
    have h2 : sm (n + 1) = (25173 * sm n + 1) % 65536 := rfl
    have h3 : (x + sm (n + 1) * (25172 * x + 13849)) % 65536 = (x + (25173 * sm n + 1) * (25172 * x + 13849)) % 65536 := by
      rw [h2, Nat.add_mod, Nat.mul_mod, Nat.mod_mod, ← Nat.mul_mod, ← Nat.add_mod]
    rw [h1, ih, h3]
    have h4 : (25173 * sm n + 1) * (25172 * x + 13849) = 25173 * (sm n * (25172 * x + 13849)) + (25172 * x + 13849) := by
      rw [Nat.add_mul, Nat.one_mul, Nat.mul_assoc]
    rw [h4]
    generalize sm n * (25172 * x + 13849) = q
    omega
theorem iter_unlike {x n : Nat} (h1 : 1 ≤ n) (h2 : n ≤ 300) : iter n x ≠ x := by
  intro e
  have h := iter_is x n
  rw [e] at h
  have hd : 65536 ∣ sm n * (25172 * x + 13849) := by
    refine Nat.dvd_of_mod_eq_zero ?_
    generalize sm n * (25172 * x + 13849) = q at *
    omega
  have hc : Nat.Coprime 65536 (25172 * x + 13849) := by
    show Nat.Coprime (2 ^ 16) _
    refine Nat.Coprime.pow_left 16 ?_
    rw [Nat.coprime_iff_gcd_eq_one, Nat.gcd_rec]
    have : (25172 * x + 13849) % 2 = 1 := by omega
    rw [this]
    rfl
  have hs := hc.dvd_of_dvd_mul_right hd
  have hl := sm_lt n
  have h0 : sm n = 0 := Nat.eq_zero_of_dvd_of_lt hs hl
  have := far_at 300 0 far_all (n - 1) (by omega)
  rw [show 0 + (n - 1) + 1 = n by omega] at this
  exact this h0
theorem draw_iter {x : Nat} (hx : x < 65536) (n : Nat) : drawH (iter n x : Nat) = (iter (n + 1) x : Nat) := by
  have := iter_lt hx n
  unfold drawH
  rw [if_pos (by unfold inR; simp; omega)]
  show _ = (((25173 * iter n x + 13849) % 65536 : Nat) : Int)
  omega
theorem drawH_neg {s : Int} : drawH s < 0 → ¬ (0 ≤ s ∧ s ≤ 65535) := by
  intro h ⟨a, b⟩
  unfold drawH at h
  rw [if_pos (by unfold inR; simp; omega)] at h
  omega

theorem pick_any {W w : World} {a : Option Addr} {len cap : Nat} {zs : List Int} (hr : IsRow .u8 W a len cap zs) (hW : Below W.heap.size W w) (hlen : len ≤ 4096) :
    Calls Try.prog 30 #[.slice a len cap, .int .i64 1, .int .i64 65536] w fun e w' => ∃ k : Nat, k < 65536 ∧ e = .returned (.int .i64 k) ∧ w' = w := by
  have cells : ∀ j, j < len → ∃ b off, a = some ⟨b, off, none⟩ ∧ ∃ z : Int, 0 ≤ z ∧ z ≤ 255 ∧ w.cell? ⟨b, off + j, none⟩ = some (.int .u8 z) := by
    intro j hj
    obtain ⟨b, off, e, _, h⟩ := row_cells hr hW (by omega)
    exact ⟨b, off, e, h j hj⟩
  clear hr hW
  go_enter Try.func30, Try.ntmps30
  go_wp2
  go_loop [7, 8] (fun h i => ∃ (k : Nat) (g : Int), k ≤ len ∧ 0 ≤ g ∧ g ≤ 1000003 ∧ i = .int .i64 k ∧ h = .int .i64 g) (fun _ i => len - (intOf i).toNat)
  case atStart => exact ⟨0, _, Nat.zero_le _, by omega, by omega, rfl, rfl⟩
  case round =>
    obtain ⟨k, g, hk, hg0, hg1, rfl, rfl⟩ := hrel
    by_cases hlt : k < len
    · obtain ⟨b, off, rfl, z, hz0, hz1, hz⟩ := cells k hlt
      clear cells
      go_wp2
      go_round
      case rel => exact ⟨k + 1, _, by omega, by omega, by omega, by go_num, rfl⟩
      case measure => simp [intOf]; omega
    · clear cells
      go_wp2
      go_ret
      exact ⟨(g % 65536).toNat, by omega, by rw [Int.toNat_of_nonneg (by omega)]; rfl, rfl⟩

theorem litv (k : Nat) (h : k < 7) : ∃ v : Int, -1 ≤ v ∧ v ≤ 65536 ∧ (#[Value.int .i64 (-1), Value.int .i64 0, Value.int .i64 1, Value.int .i64 65535, Value.int .i64 65536, Value.int .i64 77, Value.int .i64 40000] : Array Value)[k]? = some (.int .i64 v) := by
  match k, h with
  | 0, _ => exact ⟨-1, by decide, by decide, rfl⟩
  | 1, _ => exact ⟨0, by decide, by decide, rfl⟩
  | 2, _ => exact ⟨1, by decide, by decide, rfl⟩
  | 3, _ => exact ⟨65535, by decide, by decide, rfl⟩
  | 4, _ => exact ⟨65536, by decide, by decide, rfl⟩
  | 5, _ => exact ⟨77, by decide, by decide, rfl⟩
  | 6, _ => exact ⟨40000, by decide, by decide, rfl⟩
set_option maxHeartbeats 4000000 in
theorem drawDraw_any {W w : World} {a : Option Addr} {len cap : Nat} {zs : List Int} (hr : IsRow .u8 W a len cap zs) (hW : Below W.heap.size W w) (hlen : len ≤ 4096) :
    Calls Try.prog 27 #[.slice a len cap] w fun e w' => ∃ x : Int, I64 x ∧ e = .returned (.int .i64 x) ∧ Below w.heap.size w w' := by
  go_enter Try.func27, Try.ntmps27
  go_wp2_with fail
  refine (new_any hr hW hlen).mono ?_
  rintro e w1 ⟨rfl, hc, s1, b1⟩
  have hbk : W.heap.size ≤ w.heap.size := hW.size
  have B : Below W.heap.size W w1 := hW.trans (b1.mono hW.size)
  have lbk : w.heap.size < w1.heap.size := by omega
  have GD : w1.grownBy w1.drew (some w.heap.size) := grownBy_drew (grownBy_refl _ _)
  have CD : Cur w1.drew w.heap.size a len cap := hc
  have LD : w1.drew.heap.size = w1.heap.size := rfl
  have stepB : ∀ {w' : World}, w1.grownBy w' (some w.heap.size) → Below W.heap.size W w' := fun hg => B.grown hg B.size (fun k e => by cases e; exact hbk)
  have fin : ∀ {w' : World}, w1.grownBy w' (some w.heap.size) → Below w.heap.size w w' := fun hg => b1.grown hg b1.size (fun k e => by cases e; exact Nat.le_refl _)
  clear s1
  go_wp2_with fail
  go_region_law (first
    | (go_simp; go_at_call 52; with_reducible show Calls _ _ _ (World.drew (World.alloc _ _)) _; refine (below_any 7 hr (stepB (grownBy_drew (grownBy_alloc (grownBy_refl w1 _) _))) hbk (cur_drew (cur_alloc hc _))).mono ?_; rintro e w4 ⟨x, x0, _, x1, rfl, g4, c4⟩; have x2 := x1 (by decide); obtain ⟨k, rfl⟩ := Int.eq_ofNat_of_zero_le x0; obtain ⟨v, v0, v1, hv⟩ := litv k (by omega); have LIT := lit_cell (grownBy_trans (grownBy_drew (grownBy_refl _ _)) g4) lbk hv; have G4 := grownBy_trans (grownBy_drew (grownBy_alloc (grownBy_refl w1 _) _)) g4; clear x1 g4)
    | (go_simp; go_at_call 52; with_reducible show Calls _ _ _ (World.drew _) _; refine (below_any 7 hr (stepB GD) hbk CD).mono ?_; rintro e w4 ⟨x, x0, _, x1, rfl, g4, c4⟩; have x2 := x1 (by decide); obtain ⟨k, rfl⟩ := Int.eq_ofNat_of_zero_le x0; obtain ⟨v, v0, v1, hv⟩ := litv k (by omega); have G4 := grownBy_trans GD g4; clear x1 g4)
    | (go_simp; go_at_call 52; with_reducible show Calls _ _ _ (World.alloc _ _) _; refine (below_any 3 hr (stepB (grownBy_alloc G4 _)) hbk (cur_alloc c4 _)).mono ?_; rintro e w5 ⟨y, y0, _, y1, rfl, g5, c5⟩; have y2 := y1 (by decide); have LIT5 := lit_cell g5 (cur_lt c4) hv; have G5 := grownBy_trans (grownBy_alloc G4 _) g5; clear y1 g5)
    | (go_simp; go_at_call 52; refine (below_any 3 hr (stepB G4) hbk c4).mono ?_; rintro e w5 ⟨y, y0, _, y1, rfl, g5, c5⟩; have y2 := y1 (by decide); (try (have LIT5 := g5.cell LIT (by simp; omega))); have G5 := grownBy_trans G4 g5; clear y1 g5))
  all_goals go_wp2
  all_goals exact bodyPost_ret (v := .int .i64 (IntKind.i64.wrap (v + y))) (by simp [results, Try.results27, go_sem, Act.put]) rfl ⟨_, by unfold I64; rw [IntKind.wrap_i64]; omega, rfl, fin (by first | exact G5 | exact grownBy_alloc G5 _)⟩

set_option maxRecDepth 100000 in
set_option maxHeartbeats 4000000 in
theorem hashesLaw (IMPL : ∀ (w : World) (s : Int), I64 s → Calls Try.prog 28 #[.int .i64 s] w fun e w' => e = .returned (.int .i64 (drawH s)) ∧ Below w.heap.size w w')
    (a0 : Option Addr) (len0 cap0 : Nat) (z0 : List Int) (w : World) (w0 : IsRow .u8 w a0 len0 cap0 z0) :
    Calls Try.prog 5 #[.slice a0 len0 cap0] w fun e w' => e = .returned (.bool true) ∧ Below w.heap.size w w' := by
  have hl : 4096 < len0 ∨ len0 ≤ 4096 := by omega
  rcases hl with hl | hl
  · have hl' : (4096 : Int) < (len0 : Int) := by omega
    clear w0 IMPL
    go_enter Try.func5, Try.ntmps5
    go_wp2
    go_ret
    exact ⟨rfl, Below.refl _ _⟩
  · have hl' : ¬ (4096 : Int) < (len0 : Int) := by omega
    go_enter Try.func5, Try.ntmps5
    go_wp2_with (go_at_call 8; go_in)
    refine (drawDraw_any w0 (Below.refl _ _) hl).mono ?_
    rintro e w1 ⟨s, hs, rfl, B1⟩
    go_wp2_with fail
    refine (IMPL w1 s hs).mono ?_
    rintro e w2 ⟨rfl, b2⟩
    have B2 := B1.trans (b2.mono B1.size)
    clear b2 B1
    go_wp2_with fail
    refine (sDraw_any s w2).mono ?_
    rintro e w3 ⟨rfl, hw⟩
    rw [hw]
    clear hw w3
    have hn := drawH_neg (s := s)
    generalize drawH s = d at *
    by_cases hd : d < 0
    · have hn := hn hd
      have HB : Hid _ := B2
      clear IMPL w0 B2
      rcases Int.lt_or_le s 0 with h0 | h0
      · go_wp2
        go_ret
        exact ⟨rfl, HB⟩
      · have h1 : 65535 < s := by omega
        go_wp2
        go_ret
        exact ⟨rfl, HB⟩
    · clear hn
      go_wp2_with fail
      refine (pick_any w0 B2 hl).mono ?_
      rintro e w4 ⟨x, hx, rfl, hw⟩
      rw [hw]
      clear hw w4
      go_wp2_with fail
      go_loopw [6, 7] (fun p i wr => ∃ n : Nat, n ≤ 300 ∧ i = .int .i64 n ∧ p = .int .i64 (iter n x : Nat) ∧ Below w.heap.size w wr) (fun _ i _ => 300 - (intOf i).toNat)
      case atStart => exact ⟨0, by omega, rfl, rfl, B2⟩
      case round =>
        obtain ⟨n, hn, rfl, rfl, Br⟩ := hrel
        by_cases hlt : n < 300
        · have hl1 := iter_lt hx n
          have hl2 := iter_lt hx (n + 1)
          have hu := iter_unlike (x := x) (n := n + 1) (by omega) (by omega)
          have hdi := draw_iter hx n
          go_wp2_with fail
          refine (IMPL _ _ (show I64 (iter n x : Nat) from ⟨by omega, by omega⟩)).mono ?_
          rintro e w5 ⟨rfl, b5⟩
          rw [hdi]
          have HB : Hid _ := Br.trans (b5.mono Br.size)
          clear hdi b5 Br B2 IMPL w0
          have hq : ((iter (n + 1) x : Nat) : Int) ≠ (x : Int) := by omega
          have hq' : (((iter (n + 1) x : Nat) : Int) == (x : Int)) = false := by rw [beq_eq_false_iff_ne]; exact hq
          generalize hg : iter (n + 1) x = q at *
          go_wp2
          go_roundw
          case rel => exact ⟨n + 1, by omega, by go_num, by rw [hg], HB⟩
          case measure => simp [intOf]; omega
        · have HB : Hid _ := Br
          clear IMPL w0 Br B2
          go_wp2
          go_ret
          exact ⟨rfl, HB⟩
end Go.Proofs.Ytdogibjgogcdkab.draw
