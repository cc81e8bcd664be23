/-
  Chapter 6: a root stored into a slot, in the graph that a pointer leads to; by the specification and by the program.
  Made from the template GraphEd4.
-/
import Derived.Test.YtdogibjgogcdkabGraphISlot
namespace Go.Proofs.Ytdogibjgogcdkab.gr
open Go.RowKit rows heads
set_option maxRecDepth 100000

theorem bel_two {base : Nat} {w W W' : World} (h : Below base w W) (e1 : W'.os = W.os := by rfl) (e2 : W'.tape = W.tape := by rfl) (e3 : W'.output = W.output := by rfl) (e4 : W'.heap = W.heap := by rfl) : Below base w W' := ⟨e1.trans h.os, e2.trans h.tape, e3.trans h.output, by rw [e4]; exact h.size, fun k hk => by rw [e4]; exact h.block k hk⟩
theorem cell_lt {w : World} {b k : Nat} {v : Value} (h : w.cell? ⟨b, k, none⟩ = some v) : b < w.heap.size := by
  rcases Nat.lt_or_ge b w.heap.size with h' | h'
  · exact h'
  · simp [World.cell?, Array.getElem?_eq_none h'] at h
theorem held_base {w : World} {base P : Nat} {G : Gr} (H : Held w base P G) : base ≤ w.heap.size := by
  obtain ⟨_, _, _, _, T, _, _, hb⟩ := H
  have := lt_of_block T
  omega
theorem store_no {G : Gr} {t s f : Int} (h : (inR 0 5 f && slotIn G t s) = false) : store G t s f = (G, false) := by unfold store; rw [h]; rfl
theorem store_yes {G : Gr} {t s f : Int} (h : (inR 0 5 f && slotIn G t s) = true) : store G t s f = ({ G with objs := setSlot G.objs (plc G t) s.toNat (rootAt G f) }, true) := by unfold store; rw [if_pos h]
/-- What there is at a root, and at a slot of the object to which one leads. -/
theorem held_slot {w : World} {base P : Nat} {G : Gr} {x : Int} (H : Held w base P G) (hok : gOk G = true) (hy : leads G x = true) :
    ∃ q0 c0 a2 n2 c2 a3 n3 c3 sa sc ms, Five w P 55 (.slice (some ⟨q0, 0, none⟩) G.objs.length c0) (.slice a2 n2 c2) (.slice a3 n3 c3) (.int .i64 G.next) (.int .i64 G.seed) ∧ OwnG w base (.slice (some ⟨q0, 0, none⟩) G.objs.length c0) (.slice a2 n2 c2) (.slice a3 n3 c3) ms G ∧ P ∉ gblk (.slice (some ⟨q0, 0, none⟩) G.objs.length c0) (.slice a2 n2 c2) (.slice a3 n3 c3) ms ∧ base ≤ P ∧
      (ms.getD (plc G x) moD).sv = .slice sa (G.objs.getD (plc G x) obD).slots.length sc ∧ w.cell? ⟨q0, plc G x * 5, none⟩ = some (.int .i64 (ms.getD (plc G x) moD).id) ∧ w.cell? ⟨q0, plc G x * 5 + 1, none⟩ = some (.int .i64 (ms.getD (plc G x) moD).cls) ∧ w.cell? ⟨q0, plc G x * 5 + 2, none⟩ = some (.int .i64 (ms.getD (plc G x) moD).fmt) ∧ w.cell? ⟨q0, plc G x * 5 + 3, none⟩ = some (.int .i64 (ms.getD (plc G x) moD).hash) ∧ w.cell? ⟨q0, plc G x * 5 + 4, none⟩ = some (.slice sa (G.objs.getD (plc G x) obD).slots.length sc) := by
  obtain ⟨o, r, m, ms, T, O, N, hb⟩ := H
  have hp := (leads_plc hok hy).2
  have hl := own_len O
  have ab := own_abs O (plc G x)
  obtain ⟨a1, n1, c1, a2, n2, c2, a3, n3, c3, e1, e2, e3⟩ := graphAt_slices (ownG_at O)
  subst e1 e2 e3
  obtain ⟨g, cc, eo⟩ : ∃ g c, Value.slice a1 n1 c1 = .slice (some ⟨g, 0, none⟩) ms.length c := by
    obtain ⟨_, ⟨_, h0⟩ | ⟨g, cap, cur, h1, _⟩⟩ := O.2.1.1
    · omega
    · exact ⟨g, cap, h1⟩
  rw [eo, hl] at T O N
  obtain ⟨⟨ao, co, eo', _, _, _, hco⟩, hrefs⟩ := ownO_at O.2.1
  obtain ⟨sa, sc, hsv, _⟩ := hrefs _ (mem_getD (ms := ms) (i := plc G x) (by omega))
  rw [ab] at hsv
  injection eo' with e1 e2 e3
  subst e1 e3
  obtain ⟨b', off', e4, _, hcc⟩ := hco (by omega)
  injection e4 with e4
  injection e4 with e4 e5
  subst e4 e5
  obtain ⟨x0, x1, x2, x3, x4⟩ := hcc (plc G x) (by omega)
  simp only [Nat.zero_add] at x0 x1 x2 x3 x4
  rw [hsv] at x4
  exact ⟨g, cc, a2, n2, c2, a3, n3, c3, sa, sc, ms, T, O, N, hb, hsv, x0, x1, x2, x3, x4⟩

theorem held_setSlot {w : World} {base P : Nat} {o r m : Value} {ms : List MO} {G : Gr} (T : Five w P 55 o r m (.int .i64 G.next) (.int .i64 G.seed)) (O : OwnG w base o r m ms G) (N : P ∉ gblk o r m ms) (hb : base ≤ P) {k : Nat} (hk : k < ms.length) {q n c : Nat} (hv : (ms.getD k moD).sv = .slice (some ⟨q, 0, none⟩) n c) (j : Nat) (e : Rf) :
    Held (put2 w q j e) base P { G with objs := setSlot G.objs k j e } ∧ Below base w (put2 w q j e) := by
  have hq : q ∈ gblk o r m ms := by
    simp only [gblk, blks, List.mem_append, List.mem_flatMap]
    exact .inl (.inl (.inr ⟨_, mem_getD hk, by rw [hv]; simp [blk_some]⟩))
  have hqb : base ≤ q := (ownG_lt O q hq).1
  refine ⟨⟨o, r, m, _, five_ch T (put2_ch w q j e) (fun h => N ((List.mem_singleton.1 h) ▸ hq)), ownG_setSlot O hk hv j e, by unfold gblk; rw [blks_same]; exact N, hb⟩, ?_⟩
  exact ((Below.refl _ w).setCell (p := ⟨q, j * 2, none⟩) hqb _).setCell (p := ⟨q, j * 2 + 1, none⟩) hqb _

set_option maxHeartbeats 8000000 in
theorem l6Store_any {w : World} {base P : Nat} {G : Gr} (H : Held w base P G) (hok : gOk G = true) (t s f : Int) :
    Calls Try.prog 112 #[.pointer (some ⟨P, 0, none⟩), .int .i64 t, .int .i64 s, .int .i64 f] w fun e w' => e = .returned (.bool (store G t s f).2) ∧ Held w' base P (store G t s f).1 ∧ Below base w w' := by
  have RT := l6Root_any t
  have RF := l6Root_any f
  have hbw := held_base H
  have es : slotIn G t s = (inR 0 5 t && (rootAt G t).1 == 2 && (decide (0 ≤ s) && decide (s < (G.objs.getD (plc G t) obD).slots.length))) := rfl
  cases d1 : inR 0 5 t
  · rw [store_no (by rw [es, d1]; simp)]
    rw [d1] at RT
    have HH : Hid _ := H
    clear H RF es
    go_enter Try.func112, Try.ntmps112
    go_wp2_with (go_at_call 140; refine (RT _).mono ?_; rintro e w3 ⟨rfl, hw3⟩; rw [hw3]; clear hw3 w3)
    go_ret
    exact ⟨rfl, HH.out, Below.refl _ _⟩
  cases d2 : inR 0 5 f
  · rw [store_no (by rw [d2]; rfl)]
    rw [d1] at RT
    rw [d2] at RF
    have HH : Hid _ := H
    clear H es
    go_enter Try.func112, Try.ntmps112
    go_wp2_with (first | (go_at_call 140; refine (RT _).mono ?_; rintro e w3 ⟨rfl, hw3⟩; rw [hw3]; clear hw3 w3 RT) | (go_at_call 140; refine (RF _).mono ?_; rintro e w3 ⟨rfl, hw3⟩; rw [hw3]; clear hw3 w3))
    go_ret
    exact ⟨rfl, HH.out, Below.refl _ _⟩
  rw [d1] at RT
  rw [d2] at RF
  have i1 : 0 ≤ t ∧ t ≤ 5 := by simpa [inR] using d1
  have i2 : 0 ≤ f ∧ f ≤ 5 := by simpa [inR] using d2
  obtain ⟨k1, rfl⟩ : ∃ k : Nat, t = (k : Int) := ⟨t.toNat, by omega⟩
  obtain ⟨k2, rfl⟩ : ∃ k : Nat, f = (k : Int) := ⟨f.toNat, by omega⟩
  have h6 := (gOk_parts hok).1
  have hk1 : (k1 : Int) < 6 := by omega
  have hk2 : (k2 : Int) < 6 := by omega
  cases d3 : ((rootAt G (k1 : Int)).1 == 2)
  · rw [store_no (by rw [es, d1, d3]; simp)]
    have HH : Hid _ := H
    obtain ⟨o, r, m, ms, T, O, N, hb⟩ := H
    obtain ⟨q, c, rfl⟩ := ownR_form O.2.2.1 (by omega)
    obtain ⟨x0, x1⟩ := ownR_cell O.2.2.1 (i := k1) (by omega)
    obtain ⟨_, z1, _⟩ := five_cells T
    rw [h6] at z1
    have d3' : (G.roots.getD k1 refD).1 ≠ 2 := by simpa using d3
    clear T O N hb h6 d1 d2 i1 i2 es d3
    generalize G.roots.getD k1 refD = e1 at *
    obtain ⟨e11, e12⟩ := e1
    have d4 : (e11 != 2) = true := by simpa using d3'
    clear d3'
    go_enter Try.func112, Try.ntmps112
    go_wp2_with (first | (go_at_call 140; refine (RT _).mono ?_; rintro e w3 ⟨rfl, hw3⟩; rw [hw3]; clear hw3 w3 RT) | (go_at_call 140; refine (RF _).mono ?_; rintro e w3 ⟨rfl, hw3⟩; rw [hw3]; clear hw3 w3))
    go_ret
    exact ⟨rfl, HH.out, Below.refl _ _⟩
  have hy : leads G (k1 : Int) = true := by unfold leads; rw [d1, d3]; rfl
  have hpl := (leads_plc hok hy).1
  have HP : Hid _ := (leads_plc hok hy).2
  rw [d1, d3] at es
  obtain ⟨q0, c0, a2, n2, c2, a3, n3, c3, sa, sc, ms, T, O, N, hb, hsv, _, _, _, _, x4⟩ := held_slot H hok hy
  have hlm := own_len O
  have hl2 := (gOk_len hok).1
  obtain ⟨q, c, er⟩ := ownR_form O.2.2.1 (by omega)
  rw [h6] at er
  rw [er] at T O N
  have L6 := l6At_any (w := w.drew) (ownG_at (w := w.drew) (base := base) O) (by omega) (rootAt G (k1 : Int)).2
  rw [hpl] at L6
  have hplt : (plc G (k1 : Int) : Int) < G.objs.length := by have := HP.out; omega
  obtain ⟨r0, r1⟩ := ownR_cell O.2.2.1 (i := k1) (by omega)
  obtain ⟨z0, z1, z2, z3, z4, _⟩ := five_cells T
  have hk : (G.roots.getD k1 refD).1 = 2 := by simpa using d3
  have HT : Hid _ := T
  have HO : Hid _ := O
  have HN : Hid _ := N
  have HSV : Hid _ := hsv
  have HHe : Hid _ := H
  have BA : Below w.heap.size w (w.alloc (gb (.slice (some ⟨q0, 0, none⟩) G.objs.length c0) (.slice (some ⟨q, 0, none⟩) 6 c) (.slice a3 n3 c3) G.next G.seed)) := (Below.refl _ w).alloc (Nat.le_refl _) _
  have y4 := (BA.cell (p := ⟨q0, plc G (k1 : Int) * 5 + 4, none⟩) (cell_lt x4)).trans x4
  have y0 := (BA.cell (p := ⟨P, 0, none⟩) (cell_lt z0)).trans z0
  have HBA : Hid _ := BA
  clear T O N hsv H BA d1 d2 d3 i1 i2 hpl h6
  have er2 : rootAt G (k1 : Int) = G.roots.getD k1 refD := rfl
  rw [er2] at L6
  by_cases hs : 0 ≤ s ∧ s < (G.objs.getD (plc G (k1 : Int)) obD).slots.length
  · have d5 : slotIn G (k1 : Int) s = true := by rw [es, decide_eq_true hs.1, decide_eq_true hs.2]; rfl
    rw [store_yes (by rw [d5]; simp [inR]; omega)]
    obtain ⟨j, rfl⟩ : ∃ j : Nat, s = (j : Int) := ⟨s.toNat, by omega⟩
    have ab := own_abs HO.out (plc G (k1 : Int))
    have OS := HO.out.2.1.2.1 _ (mem_getD (ms := ms) (i := plc G (k1 : Int)) (by have := HP.out; omega))
    rw [ab] at OS
    obtain ⟨q5, c5, e5⟩ := ownR_form OS (by omega)
    have hsv := HSV.out
    rw [e5] at hsv
    injection hsv with e6 e7 e8
    subst e6 e8
    rw [e5] at OS
    have OS3 := ownR_below OS HBA.out
    obtain ⟨u0, u1⟩ := ownR_cell OS3 (i := j) (by omega)
    have f0 := row_frozen OS3 (j * 2)
    have f1 := row_frozen OS3 (j * 2 + 1)
    have O3 := ownG_below HO.out HBA.out
    obtain ⟨v0, v1⟩ := ownR_cell O3.2.2.1 (i := k2) (by have := (gOk_parts hok).1; omega)
    have HH : Hid _ := held_setSlot (five_below HT.out HBA.out) O3 HN.out hb (k := plc G (k1 : Int)) (by have := HP.out; omega) e5 j (G.roots.getD k2 refD)
    have y1 := (HBA.out.cell (p := ⟨P, 1, none⟩) (cell_lt z1)).trans z1
    have HB3 : Hid _ := HBA.out.mono hbw
    have j0 : ¬ (j : Int) < 0 := by omega
    have j1 : ¬ (j : Int) ≥ ((G.objs.getD (plc G (k1 : Int)) obD).slots.length : Int) := by omega
    have j2 : (j : Int) < ((G.objs.getD (plc G (k1 : Int)) obD).slots.length : Int) := by omega
    simp only [rootAt, Int.toNat_natCast]
    clear OS OS3 O3 e5 e7 HSV HT HO HN HHe HBA es hs d5 ab er er2 HP hlm hl2 hy
    generalize (G.objs.getD (plc G (k1 : Int)) obD).slots.length = sl at *
    generalize plc G (k1 : Int) = pl at *
    generalize ((G.objs.getD pl obD).slots.getD j refD) = e3 at *
    generalize G.roots.getD k2 refD = e2 at *
    generalize G.roots.getD k1 refD = e1 at *
    obtain ⟨e11, e12⟩ := e1
    obtain ⟨e21, e22⟩ := e2
    obtain ⟨e31, e32⟩ := e3
    subst hk
    go_enter Try.func112, Try.ntmps112
    go_wp2_with (first | (go_at_call 140; refine (RT _).mono ?_; rintro e w3 ⟨rfl, hw3⟩; rw [hw3]; clear hw3 w3 RT) | (go_at_call 140; refine (RF _).mono ?_; rintro e w3 ⟨rfl, hw3⟩; rw [hw3]; clear hw3 w3))
    go_region_law (go_simp; go_at_call 145; refine L6.mono ?_; rintro e w3 ⟨rfl, hw3⟩; rw [hw3]; clear hw3 w3)
    all_goals go_wp2_with fail
    all_goals go_region_law (fail)
    all_goals go_wp2
    all_goals go_ret
    all_goals exact ⟨rfl, HH.out.1, bel_two (HB3.out.trans HH.out.2)⟩
  · have d5 : slotIn G (k1 : Int) s = false := by
      rw [es]
      simp only [Bool.true_and, Bool.and_eq_false_iff, decide_eq_false_iff_not]
      omega
    rw [store_no (by rw [d5]; simp)]
    have HH : Hid _ := held_below HHe.out HBA.out
    have HB3 : Hid _ := HBA.out.mono hbw
    clear HSV HT HO HN HHe HBA es d5 er er2 HP hlm hl2 hy
    generalize (G.objs.getD (plc G (k1 : Int)) obD).slots.length = sl at *
    generalize plc G (k1 : Int) = pl at *
    generalize G.roots.getD k1 refD = e1 at *
    obtain ⟨e11, e12⟩ := e1
    subst hk
    by_cases s0 : s < 0
    · clear hs
      go_enter Try.func112, Try.ntmps112
      go_wp2_with (first | (go_at_call 140; refine (RT _).mono ?_; rintro e w3 ⟨rfl, hw3⟩; rw [hw3]; clear hw3 w3 RT) | (go_at_call 140; refine (RF _).mono ?_; rintro e w3 ⟨rfl, hw3⟩; rw [hw3]; clear hw3 w3))
      go_region_law (go_simp; go_at_call 145; refine L6.mono ?_; rintro e w3 ⟨rfl, hw3⟩; rw [hw3]; clear hw3 w3)
      all_goals go_wp2
      all_goals go_ret
      all_goals exact ⟨rfl, HH.out, bel_two HB3.out⟩
    · have s1 : s ≥ (sl : Int) := by omega
      clear hs
      go_enter Try.func112, Try.ntmps112
      go_wp2_with (first | (go_at_call 140; refine (RT _).mono ?_; rintro e w3 ⟨rfl, hw3⟩; rw [hw3]; clear hw3 w3 RT) | (go_at_call 140; refine (RF _).mono ?_; rintro e w3 ⟨rfl, hw3⟩; rw [hw3]; clear hw3 w3))
      go_region_law (go_simp; go_at_call 145; refine L6.mono ?_; rintro e w3 ⟨rfl, hw3⟩; rw [hw3]; clear hw3 w3)
      all_goals go_wp2
      all_goals go_ret
      all_goals exact ⟨rfl, HH.out, bel_two HB3.out⟩

set_option maxHeartbeats 8000000 in
theorem cStored_any {w : World} {base P b1 b2 b3 : Nat} {G : Gr} (H : Held w base P G) (hok : gOk G = true) (t s f : Int) (n1 : NumAt w b1 t) (n2 : NumAt w b2 s) (n3 : NumAt w b3 f) :
    Calls Try.prog 102 #[.pointer (some ⟨P, 0, none⟩), .pointer (some ⟨b1, 0, none⟩), .pointer (some ⟨b2, 0, none⟩), .pointer (some ⟨b3, 0, none⟩)] w fun e w' => e = .returned (.bool (store G t s f).2) ∧ Held w' base P (store G t s f).1 ∧ Below base w w' := by
  unfold NumAt at n1 n2 n3
  have RF := rootInRange_any f
  have hbw := held_base H
  have l3 := cell_lt n3
  cases d5 : slotIn G t s
  · rw [store_no (by rw [d5]; simp)]
    have HH : Hid (∀ W, Below w.heap.size w W → _) := fun W hW => held_below H hW
    obtain ⟨o, r, m, ms, T, O, N, hb⟩ := H
    have SN := slotAt_no T O hok t s d5
    clear T O N hb d5 RF
    go_enter Try.func102, Try.ntmps102
    go_wp2_with (go_at_call 103; refine SN.mono ?_; rintro e w3 ⟨rfl, b3⟩; have HB3 : Hid _ := b3; clear b3 SN)
    go_ret
    exact ⟨rfl, HH.out _ HB3.out, HB3.out.mono hbw⟩
  · have es : slotIn G t s = (leads G t && (decide (0 ≤ s) && decide (s < (G.objs.getD (plc G t) obD).slots.length))) := rfl
    have es' := es.symm.trans d5
    simp only [Bool.and_eq_true, decide_eq_true_eq] at es'
    obtain ⟨hy, s0, s1⟩ := es'
    obtain ⟨j, rfl⟩ : ∃ j : Nat, s = (j : Int) := ⟨s.toNat, by omega⟩
    have hp := (leads_plc hok hy).2
    have HH : Hid (∀ W, Below w.heap.size w W → _) := fun W hW => held_below H hW
    obtain ⟨o, r, m, ms, T, O, N, hb⟩ := H
    have SY := slotAt_yes T O hok t j d5
    have hl := own_len O
    have ab := own_abs O (plc G t)
    cases d2 : inR 0 5 f
    · rw [store_no (by rw [d2]; rfl)]
      rw [d2] at RF
      clear T O N hb d5 es hl ab hp hy s0 s1
      generalize plc G t = pl at *
      go_enter Try.func102, Try.ntmps102
      go_wp2_with (go_at_call 103; refine SY.mono ?_; rintro e w3 ⟨q5, c5, _, rfl, b3⟩; have HB3 : Hid _ := b3; clear b3 SY; refine Hid.out ?_)
      have m3 := (HB3.out.cell (p := ⟨b3, 0, none⟩) l3).trans n3
      refine Go.Lib.hid ?_
      go_wp2_with (go_at_call 99; refine (RF _).mono ?_; rintro e w4 ⟨rfl, hw3⟩; rw [hw3]; clear hw3 w4)
      go_ret
      exact ⟨rfl, HH.out _ HB3.out, HB3.out.mono hbw⟩
    · rw [store_yes (by rw [d2, d5]; rfl)]
      rw [d2] at RF
      have i2 : 0 ≤ f ∧ f ≤ 5 := by simpa [inR] using d2
      obtain ⟨k2, rfl⟩ : ∃ k : Nat, f = (k : Int) := ⟨f.toNat, by omega⟩
      have h6 := (gOk_parts hok).1
      have hk2 : (k2 : Int) < 6 := by omega
      obtain ⟨q, c, rfl⟩ := ownR_form O.2.2.1 (by omega)
      have HF : Hid (∀ W q5 c5, Below w.heap.size w W → (ms.getD (plc G t) moD).sv = .slice (some ⟨q5, 0, none⟩) (G.objs.getD (plc G t) obD).slots.length c5 → W.cell? ⟨P, 1, none⟩ = some (.slice (some ⟨q, 0, none⟩) 6 c) ∧ (∃ u0 u1, W.cell? ⟨q5, j * 2, none⟩ = some (.int .i64 u0) ∧ W.cell? ⟨q5, j * 2 + 1, none⟩ = some (.int .i64 u1)) ∧ W.frozen? ⟨q5, j * 2, none⟩ = false ∧ W.frozen? ⟨q5, j * 2 + 1, none⟩ = false ∧ (W.cell? ⟨q, k2 * 2, none⟩ = some (.int .i64 (G.roots.getD k2 refD).1) ∧ W.cell? ⟨q, k2 * 2 + 1, none⟩ = some (.int .i64 (G.roots.getD k2 refD).2)) ∧ Held (put2 W q5 j (G.roots.getD k2 refD)) base P { G with objs := setSlot G.objs (plc G t) j (G.roots.getD k2 refD) } ∧ Below base W (put2 W q5 j (G.roots.getD k2 refD))) := fun W q5 c5 hW hv => by
        have O3 := ownG_below O hW
        have T3 := five_below T hW
        obtain ⟨_, z1, _⟩ := five_cells T3
        rw [h6] at z1
        have OS := O3.2.1.2.1 _ (mem_getD (ms := ms) (i := plc G t) (by omega))
        rw [ab, hv] at OS
        obtain ⟨u0, u1⟩ := ownR_cell OS (i := j) (by omega)
        have := held_setSlot T3 O3 N hb (k := plc G t) (by omega) hv j (G.roots.getD k2 refD)
        exact ⟨z1, ⟨_, _, u0, u1⟩, row_frozen OS _, row_frozen OS _, ownR_cell O3.2.2.1 (by omega), this.1, this.2⟩
      simp only [rootAt, Int.toNat_natCast]
      clear T O N hb d5 d2 es hl ab hp hy s0 s1 HH i2 h6
      generalize (G.objs.getD (plc G t) obD).slots.length = sl at *
      generalize plc G t = pl at *
      generalize G.roots.getD k2 refD = e2 at *
      obtain ⟨e21, e22⟩ := e2
      go_enter Try.func102, Try.ntmps102
      go_wp2_with (go_at_call 103; refine SY.mono ?_; rintro e w3 ⟨q5, c5, hv, rfl, b3⟩; have HV : Hid _ := hv; have HB3 : Hid _ := b3; clear b3 hv SY; refine Hid.out ?_)
      have m3 := (HB3.out.cell (p := ⟨b3, 0, none⟩) l3).trans n3
      obtain ⟨z1, ⟨u0, u1, y0, y1⟩, f0, f1, ⟨v0, v1⟩, hh, bb⟩ := HF.out w3 q5 c5 HB3.out HV.out
      have HH : Hid _ := hh
      have HBB : Hid _ := (HB3.out.mono hbw).trans bb
      clear HF HV hh bb n1 n2 n3
      refine Go.Lib.hid ?_
      go_wp2_with (go_at_call 99; refine (RF _).mono ?_; rintro e w4 ⟨rfl, hw3⟩; rw [hw3]; clear hw3 w4)
      go_region_law (fail)
      all_goals go_wp2
      all_goals go_ret
      all_goals exact ⟨rfl, HH.out, bel_two HBB.out⟩
end Go.Proofs.Ytdogibjgogcdkab.gr
