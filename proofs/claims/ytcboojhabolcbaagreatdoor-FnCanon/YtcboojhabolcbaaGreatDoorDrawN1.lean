/-
  Chapter 6, the drawn inputs: a ref into a graph.
  Made from the template DrawN1.
-/
import Derived.Test.YtcboojhabolcbaaGreatDoorM12
import Derived.Test.YtcboojhabolcbaaGreatDoorGraphEd5
import Derived.Lib.Hide
namespace Go.Proofs.YtcboojhabolcbaaGreatDoor.gr
open Go.RowKit rows heads draw
set_option maxRecDepth 100000
set_option linter.unusedVariables false

theorem ch_cur {w w' : World} {bk : Nat} (h : w.grownBy w' (some bk)) : Ch [bk] w w' := ⟨h.os, h.tape, h.output, h.size, fun k hk hn => h.block k hk (fun e => hn (by cases e; simp))⟩
theorem ownG_cur {w w' : World} {base bk : Nat} {o r m : Value} {ms : List MO} {G : Gr} (O : OwnG w base o r m ms G) (hb : bk < base) (hg : w.grownBy w' (some bk)) : OwnG w' base o r m ms G :=
  ownG_ch O (ch_cur hg) (fun k hk e => by have := (ownG_lt O k hk).1; rw [List.mem_singleton] at e; omega)
theorem held_cur {w w' : World} {base bk P : Nat} {G : Gr} (H : Held w base P G) (hb : bk < base) (hg : w.grownBy w' (some bk)) : Held w' base P G := by
  obtain ⟨o, r, m, ms, T, O, N, hP⟩ := H
  exact ⟨o, r, m, ms, five_ch T (ch_cur hg) (fun e => by rw [List.mem_singleton] at e; omega), ownG_cur O hb hg, N, hP⟩
theorem cur_below {w w' : World} {bk base : Nat} {a : Option Addr} {len cap : Nat} (h : Cur w bk a len cap) (hb : Below base w w') (hl : bk < base) : Cur w' bk a len cap := by
  obtain ⟨i, x, h1, h2⟩ := h
  exact ⟨i, x, (hb.block bk hl).trans h1, h2⟩
theorem grown_bel {w w' : World} {base : Nat} (hb : Below base w w') (hl : w.heap.size ≤ base) (r : Option Nat) : w.grownBy w' r := ⟨hb.os, hb.tape, hb.output, hb.size, fun k hk _ => hb.block k (by omega)⟩
def RfAt (w : World) (b : Nat) (e : Rf) : Prop := w.heap[b]? = some (.cells #[.int .i64 e.1, .int .i64 e.2] 31 (0, 0))
theorem rfAt_cells {w : World} {b : Nat} {e : Rf} (h : RfAt w b e) : w.cell? ⟨b, 0, none⟩ = some (.int .i64 e.1) ∧ w.cell? ⟨b, 1, none⟩ = some (.int .i64 e.2) ∧ ∀ k, w.frozen? ⟨b, k, none⟩ = false := by
  unfold RfAt at h
  refine ⟨?_, ?_, fun k => ?_⟩
  all_goals simp [World.cell?, World.frozen?, h]
theorem rfAt_new (w : World) (e : Rf) : RfAt (w.alloc (rb e)) w.heap.size e := heap_alloc_new w _
theorem rfAt_sets {w : World} {b : Nat} {e : Rf} (h : RfAt w b e) (x y : Int) : RfAt ((w.setCell ⟨b, 0, none⟩ (.int .i64 x)).setCell ⟨b, 1, none⟩ (.int .i64 y)) b (x, y) := (cells_setCell ((cells_setCell h 0 (.int .i64 x))) 1 (.int .i64 y)).trans (by simp)
theorem rfAt_cur {w w' : World} {b bk : Nat} {e : Rf} (h : RfAt w b e) (hne : b ≠ bk) (hg : w.grownBy w' (some bk)) : RfAt w' b e := (hg.block b (lt_of_block h) (fun e => by cases e; exact hne rfl)).trans h
theorem res_ref {fn : Func} {tmps : Array Value} {X : World} {j b : Nat} {x y : Int} (hf : fn.results = #[.cell j 31]) (h2 : tmps[j]? = some (.pointer (some ⟨b, 0, none⟩))) (hX : RfAt X b (x, y)) :
    (results fn tmps).run Tryz.prog X = .ok (rv (x, y)) X := by
  obtain ⟨k0, k1, _⟩ := rfAt_cells hX
  clear hX
  simp [results, hf, h2, go_sem, k0, k1]

def No7 (l : List Rf) : Prop := ∀ f ∈ l, f ≠ (1, 77777)
theorem no7_set {l : List Rf} (h : No7 l) (i : Nat) {f : Rf} (hf : f ≠ (1, 77777)) : No7 (l.set i f) := fun g hg => by
  rcases List.mem_or_eq_of_mem_set hg with hg | rfl
  · exact h g hg
  · exact hf
theorem no7_rep (n : Nat) : No7 (List.replicate n refD) := fun f hf => by
  rw [List.eq_of_mem_replicate hf]
  decide

set_option maxHeartbeats 8000000 in
theorem drawRef_any {W w : World} {bk : Nat} {a : Option Addr} {len cap : Nat} {zs : List Int} (hr : IsRow .u8 W a len cap zs) (hW : Below W.heap.size W w) (hbk : W.heap.size ≤ bk) (hc : Cur w bk a len cap) {base : Nat} {o r m : Value} {ms : List MO} {G : Gr} (O : OwnG w base o r m ms G) (hl : ms.length ≤ 1048576) (hb : bk < base) :
    Calls Tryz.prog 82 #[.pointer (some ⟨bk, 0, none⟩), gv o r m G.next G.seed] w fun e w' => ∃ f : Rf, f ≠ (1, 77777) ∧ e = .returned (rv f) ∧ w.grownBy w' (some bk) ∧ Cur w' bk a len cap := by
  obtain ⟨o1, o2, o3, r1, r2, r3, m1, m2, m3, e1, e2, e3⟩ := graphAt_slices (ownG_at O)
  subst e1 e2 e3
  have el : o2 = ms.length := by obtain ⟨⟨a0, c0, e, _⟩, _⟩ := ownO_at O.2.1; injection e
  subst el
  have step : ∀ {V V' : World}, Below W.heap.size W V → V.grownBy V' (some bk) → Below W.heap.size W V' := fun h hg => h.grown hg h.size (fun k e => by cases e; exact hbk)
  obtain ⟨X, hX⟩ : ∃ X, X = (w.alloc (gb (.slice o1 ms.length o3) (.slice r1 r2 r3) (.slice m1 m2 m3) G.next G.seed)).alloc (rb refD) := ⟨_, rfl⟩
  have BX : Below w.heap.size w X := by rw [hX]; exact ((Below.refl _ w).alloc (Nat.le_refl _) _).alloc (by simp) _
  have TX : Five X w.heap.size 27 (.slice o1 ms.length o3) (.slice r1 r2 r3) (.slice m1 m2 m3) (.int .i64 G.next) (.int .i64 G.seed) := by rw [hX]; exact five_below (five_new w _ _ _ _ _ _) ((Below.refl _ _).alloc (Nat.le_refl _) _)
  have RX : RfAt X (w.heap.size + 1) refD := by
    have := rfAt_new (w.alloc (gb (.slice o1 ms.length o3) (.slice r1 r2 r3) (.slice m1 m2 m3) G.next G.seed)) refD
    rw [hX]
    rw [show (w.alloc (gb (.slice o1 ms.length o3) (.slice r1 r2 r3) (.slice m1 m2 m3) G.next G.seed)).heap.size = w.heap.size + 1 by simp] at this
    exact this
  have CX : Cur X bk a len cap := by rw [hX]; exact cur_alloc (cur_alloc hc _) _
  have GX : w.grownBy X (some bk) := grown_bel BX (Nat.le_refl _) _
  have lbk := cur_lt hc
  have OX := ownG_below O BX
  have WX := step hW GX
  obtain ⟨u0, _, _, _, _, _⟩ := five_cells TX
  have HTX : Hid _ := TX
  have HRX : Hid _ := RX
  have HCX : Hid _ := CX
  have HGX : Hid _ := GX
  have HOX : Hid _ := OX
  have HWX : Hid _ := WX
  -- the end: whatever is stored
  have FIN : Hid (∀ (V : World) (x y : Int), X.grownBy V (some bk) → Cur V bk a len cap → (RfAt V (w.heap.size + 1) refD) → (RfAt ((V.setCell ⟨w.heap.size + 1, 0, none⟩ (.int .i64 x)).setCell ⟨w.heap.size + 1, 1, none⟩ (.int .i64 y)) (w.heap.size + 1) (x, y) ∧ w.grownBy ((V.setCell ⟨w.heap.size + 1, 0, none⟩ (.int .i64 x)).setCell ⟨w.heap.size + 1, 1, none⟩ (.int .i64 y)) (some bk) ∧ Cur ((V.setCell ⟨w.heap.size + 1, 0, none⟩ (.int .i64 x)).setCell ⟨w.heap.size + 1, 1, none⟩ (.int .i64 y)) bk a len cap)) := fun V x y hg hcV hRV => ⟨rfAt_sets hRV x y, grownBy_setCell_new (grownBy_setCell_new (grownBy_trans HGX.out hg) (p := ⟨w.heap.size + 1, 0, none⟩) (by show w.heap.size ≤ w.heap.size + 1; omega) _) (p := ⟨w.heap.size + 1, 1, none⟩) (by show w.heap.size ≤ w.heap.size + 1; omega) _, cur_setCell (cur_setCell hcV (p := ⟨w.heap.size + 1, 0, none⟩) (by show bk ≠ w.heap.size + 1; omega) _) (p := ⟨w.heap.size + 1, 1, none⟩) (by show bk ≠ w.heap.size + 1; omega) _⟩
  have HKEEP : Hid (∀ V, X.grownBy V (some bk) → RfAt V (w.heap.size + 1) refD ∧ Below W.heap.size W V) := fun V hg => ⟨rfAt_cur HRX.out (by omega) hg, step HWX.out hg⟩
  clear TX RX CX GX OX WX O hc
  -- the second half: nothing, or a number
  have HALF : Hid (∀ V, X.grownBy V (some bk) → Cur V bk a len cap → True) := fun _ _ _ => trivial
  clear HALF
  go_enter Tryz.func82, Tryz.ntmps82
  by_cases h0 : ms.length = 0
  · have h0' : ¬ (ms.length : Int) > 0 := by omega
    clear h0
    go_wp2_with fail
    rw [← hX]
    clear hX
    refine (once_any 2 hr HWX.out hbk HCX.out).mono ?_
    rintro e w1 ⟨b1, rfl, hg1, hc1⟩
    obtain ⟨rk, bw⟩ := HKEEP.out _ hg1
    cases b1
    · have HG1 : Hid _ := hg1
      go_wp2_with fail
      refine (below_any 20 hr bw hbk hc1).mono ?_
      rintro e w2 ⟨x, x0, _, x1, rfl, hg2, hc2⟩
      have x2 := x1 (by decide)
      have hg3 := grownBy_trans HG1.out hg2
      obtain ⟨rk2, _⟩ := HKEEP.out _ hg3
      obtain ⟨p0, p1, pf⟩ := rfAt_cells rk2
      have pf0 := pf 0
      have pf1 := pf 1
      obtain ⟨R, A, B⟩ := FIN.out w2 1 (x - 10) hg3 hc2 rk2
      have HR : Hid _ := R
      have HA : Hid _ := A
      have HB : Hid _ := B
      clear R A B pf x1 hg2 hc2 hg3 rk rk2 bw hc1 hg1 u0
      go_wp2
      exact bodyPost_ret (res_ref rfl rfl HR.out) rfl ⟨_, (by intro e; injection e; omega), rfl, HA.out, HB.out⟩
    · obtain ⟨p0, p1, pf⟩ := rfAt_cells rk
      have pf0 := pf 0
      have pf1 := pf 1
      obtain ⟨R, A, B⟩ := FIN.out w1 0 0 hg1 hc1 rk
      have HR : Hid _ := R
      have HA : Hid _ := A
      have HB : Hid _ := B
      clear R A B pf hg1 hc1 rk bw u0
      go_wp2
      exact bodyPost_ret (res_ref rfl rfl HR.out) rfl ⟨_, (by intro e; injection e; omega), rfl, HA.out, HB.out⟩
  have h0' : (ms.length : Int) > 0 := by omega
  clear h0
  go_wp2_with fail
  rw [← hX]
  clear hX
  refine (once_any 3 hr HWX.out hbk HCX.out).mono ?_
  rintro e w0 ⟨b0, rfl, hg0, hc0⟩
  obtain ⟨rk0, bw0⟩ := HKEEP.out _ hg0
  have HG0 : Hid _ := hg0
  cases b0
  case true =>
    go_wp2_with fail
    refine (once_any 2 hr bw0 hbk hc0).mono ?_
    rintro e w1 ⟨b1, rfl, hg1, hc1⟩
    have hg1 := grownBy_trans HG0.out hg1
    obtain ⟨rk, bw⟩ := HKEEP.out _ hg1
    cases b1
    · have HG1 : Hid _ := hg1
      clear hg0 hc0 rk0 bw0
      go_wp2_with fail
      refine (below_any 20 hr bw hbk hc1).mono ?_
      rintro e w2 ⟨x, x0, _, x1, rfl, hg2, hc2⟩
      have x2 := x1 (by decide)
      have hg3 := grownBy_trans HG1.out hg2
      obtain ⟨rk2, _⟩ := HKEEP.out _ hg3
      obtain ⟨p0, p1, pf⟩ := rfAt_cells rk2
      have pf0 := pf 0
      have pf1 := pf 1
      obtain ⟨R, A, B⟩ := FIN.out w2 1 (x - 10) hg3 hc2 rk2
      have HR : Hid _ := R
      have HA : Hid _ := A
      have HB : Hid _ := B
      clear R A B pf x1 hg2 hc2 hg3 rk rk2 bw hc1 hg1 u0
      go_wp2
      exact bodyPost_ret (res_ref rfl rfl HR.out) rfl ⟨_, (by intro e; injection e; omega), rfl, HA.out, HB.out⟩
    · obtain ⟨p0, p1, pf⟩ := rfAt_cells rk
      have pf0 := pf 0
      have pf1 := pf 1
      obtain ⟨R, A, B⟩ := FIN.out w1 0 0 hg1 hc1 rk
      have HR : Hid _ := R
      have HA : Hid _ := A
      have HB : Hid _ := B
      clear R A B pf hg1 hc1 rk bw u0 hg0 hc0 rk0 bw0
      go_wp2
      exact bodyPost_ret (res_ref rfl rfl HR.out) rfl ⟨_, (by intro e; injection e; omega), rfl, HA.out, HB.out⟩
  case false =>
    obtain ⟨u0', _, _, _, _, _⟩ := five_cells (five_ch HTX.out (ch_cur hg0) (fun e => by rw [List.mem_singleton] at e; omega))
    have HKO : Hid (∀ V, X.grownBy V (some bk) → ∀ x : Int, 0 ≤ x → x < ms.length → ∃ q, o1 = some ⟨q, 0, none⟩ ∧ ∃ i, V.cell? ⟨q, x.toNat * 5, none⟩ = some (.int .i64 i)) := fun V hg x x0 x1 => by
      have OV := ownG_cur HOX.out hb hg
      obtain ⟨_, ⟨h1, h2⟩ | ⟨g', cap', cur, h1, _⟩⟩ := OV.2.1.1
      · omega
      · injection h1 with e1 e2 e3
        obtain ⟨⟨a0, c0, e, _, _, _, hco⟩, _⟩ := ownO_at OV.2.1
        injection e with e4 e5 e6
        obtain ⟨b', off', e7, _, hcc⟩ := hco (by omega)
        have := e4.trans e7
        rw [e1] at this
        injection this with this
        injection this with e8 e9
        obtain ⟨y0, _⟩ := hcc x.toNat (by omega)
        rw [← e8, ← e9] at y0
        simp only [Nat.zero_add] at y0
        exact ⟨g', e1, _, y0⟩
    obtain ⟨q, rfl, _⟩ := HKO.out w0 hg0 0 (Int.le_refl _) (by omega)
    have HKP : Hid (∀ V, X.grownBy V (some bk) → ∀ k : Nat, (k : Int) < ms.length → ∃ i, V.cell? ⟨q, k * 5, none⟩ = some (.int .i64 i)) := fun V hg k hk => by
      obtain ⟨q', e, i, hi⟩ := HKO.out V hg (k : Int) (by omega) hk
      injection e with e
      injection e with e
      subst e
      exact ⟨i, by simpa using hi⟩
    have D0 : X.grownBy w0.drew (some bk) := grownBy_drew hg0
    obtain ⟨_, bw1⟩ := HKEEP.out _ D0
    have HC0 : Hid _ := cur_drew hc0
    have HBW : Hid _ := bw1
    have HD0 : Hid _ := D0
    have HTK : Hid (∀ V, X.grownBy V (some bk) → V.cell? ⟨w.heap.size, 0, none⟩ = some (.slice (some ⟨q, 0, none⟩) ms.length o3)) := fun V hg => (five_cells (five_ch HTX.out (ch_cur hg) (fun e => by rw [List.mem_singleton] at e; omega))).1
    clear hg0 hc0 rk0 bw0 HG0 HKO bw1 D0 u0
    go_wp2_with fail
    go_region_law (go_simp; go_at_call 34; refine (below_any (ms.length : Int) hr HBW.out hbk HC0.out).mono ?_; rintro e w1 ⟨x, x0, _, x1, rfl, hg1, hc1⟩; have x2 := x1 h0'; obtain ⟨k, rfl⟩ := Int.eq_ofNat_of_zero_le x0; have hg2 := grownBy_trans HD0.out hg1; obtain ⟨ii, hii⟩ := HKP.out _ hg2 k x2; have u1 := HTK.out _ hg2; obtain ⟨rk2, _⟩ := HKEEP.out _ hg2; obtain ⟨p0, p1, pf⟩ := rfAt_cells rk2; have pf0 := pf 0; have pf1 := pf 1; have HFN : Hid _ := FIN.out w1 2 ii hg2 hc1 rk2; clear x1 hg1 hc1 hg2 rk2 pf)
    all_goals go_wp2
    all_goals exact bodyPost_ret (res_ref rfl rfl HFN.out.1) rfl ⟨2, ii, (by intro e; omega), rfl, HFN.out.2.1, HFN.out.2.2⟩
end Go.Proofs.YtcboojhabolcbaaGreatDoor.gr
