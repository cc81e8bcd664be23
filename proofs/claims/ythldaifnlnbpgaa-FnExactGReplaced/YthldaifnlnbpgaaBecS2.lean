/-
  Chapter 18 as the specification has it: l18Become, in the graph that a pointer leads to.
  Made from the template BecS2.
-/
import Derived.Test.YthldaifnlnbpgaaBecS
import Derived.Lib.Hide
import Derived.Deep.QuietTactic
import Derived.BigQuiet
namespace Go.Proofs.Ythldaifnlnbpgaa.gr
open Go.RowKit rows heads
set_option maxRecDepth 100000
set_option linter.unusedVariables false

theorem bCan_no1 {G : Gr} {a b : Int} (h : leads G a = false) : bCan G a b = false := by unfold bCan; rw [h]; rfl
theorem bCan_no2 {G : Gr} {a b : Int} (h : leads G b = false) : bCan G a b = false := by unfold bCan; rw [h]; simp
theorem bCan_no3 {G : Gr} {a b : Int} (h : ((rootAt G a).2 == (rootAt G b).2) = true) : bCan G a b = false := by unfold bCan; simp only [bne, h]; simp
theorem leads_no1 {G : Gr} {a : Int} (h : inR 0 5 a = false) : leads G a = false := by unfold leads; rw [h]; rfl
theorem leads_no2 {G : Gr} {a : Int} (h : ((rootAt G a).1 == 2) = false) : leads G a = false := by unfold leads; rw [h]; simp

set_option maxHeartbeats 16000000 in
theorem l18Become_any {w : World} {base P : Nat} {G : Gr} (H : Held w base P G) (hok : gOk G = true) (a b : Int) (both : Bool) :
    Calls Try.prog 18 #[.pointer (some ⟨P, 0, none⟩), .int .i64 a, .int .i64 b, .bool both] w fun e w' => e = .returned (.bool (turned G a b both).2) ∧ Held w' base P (turned G a b both).1 ∧ Below base w w' := by
  have RA := l6Root_any a
  have RB := l6Root_any b
  cases d1 : inR 0 5 a
  · rw [turned_no (bCan_no1 (leads_no1 d1))]
    rw [d1] at RA
    have HH : Hid _ := H
    clear H RB
    go_enter Try.func18, Try.ntmps18
    go_wp2_with fail
    go_quiet ((go_at_call 34; exact (RA _).mono fun _ _ ⟨he, hm⟩ => ⟨he, _, hm⟩))
    all_goals go_wp2
    all_goals go_ret
    all_goals exact ⟨rfl, HH.out, bel_drewN (Below.refl _ _)⟩
  cases d2 : inR 0 5 b
  · rw [turned_no (bCan_no2 (leads_no1 d2))]
    rw [d1] at RA
    rw [d2] at RB
    have HH : Hid _ := H
    clear H
    go_enter Try.func18, Try.ntmps18
    go_wp2_with fail
    go_quiet (first | (go_at_call 34; exact (RA _).mono fun _ _ ⟨he, hm⟩ => ⟨he, _, hm⟩) | (go_at_call 34; exact (RB _).mono fun _ _ ⟨he, hm⟩ => ⟨he, _, hm⟩))
    all_goals go_wp2
    all_goals go_ret
    all_goals exact ⟨rfl, HH.out, bel_drewN (Below.refl _ _)⟩
  rw [d1] at RA
  rw [d2] at RB
  have i1 : 0 ≤ a ∧ a ≤ 5 := by simpa [inR] using d1
  have i2 : 0 ≤ b ∧ b ≤ 5 := by simpa [inR] using d2
  obtain ⟨k1, rfl⟩ : ∃ k : Nat, a = (k : Int) := ⟨a.toNat, by omega⟩
  obtain ⟨k2, rfl⟩ : ∃ k : Nat, b = (k : Int) := ⟨b.toNat, by omega⟩
  have h6 := (gOk_parts hok).1
  have hk1 : (k1 : Int) < 6 := by omega
  have hk2 : (k2 : Int) < 6 := by omega
  have HH : Hid _ := H
  obtain ⟨o, r, m, ms, T, O, N, hb⟩ := H
  obtain ⟨q, c, er⟩ := ownR_form O.2.2.1 (by omega)
  have x1 := O.2.2.1
  rw [er] at x1
  obtain ⟨x0, x1⟩ := ownR_cell x1 (i := k1) (by omega)
  have y1 := O.2.2.1
  rw [er] at y1
  obtain ⟨y0, y1⟩ := ownR_cell y1 (i := k2) (by omega)
  obtain ⟨_, z1, _⟩ := five_cells T
  have z1' := z1
  rw [er, h6] at z1'
  have r1 : rootAt G (k1 : Int) = G.roots.getD k1 refD := rfl
  have r2 : rootAt G (k2 : Int) = G.roots.getD k2 refD := rfl
  cases d3 : ((rootAt G (k1 : Int)).1 == 2)
  · rw [turned_no (bCan_no1 (leads_no2 d3))]
    rw [r1] at d3
    clear T O N hb h6 d1 d2 i1 i2 z1 er
    generalize G.roots.getD k1 refD = e1 at *
    generalize G.roots.getD k2 refD = e2 at *
    obtain ⟨e11, e12⟩ := e1
    obtain ⟨e21, e22⟩ := e2
    have d4 : (e11 != 2) = true := by simp only [bne, d3]; rfl
    clear d3 r1 r2
    go_enter Try.func18, Try.ntmps18
    go_wp2_with fail
    go_quiet (first | (go_at_call 34; exact (RA _).mono fun _ _ ⟨he, hm⟩ => ⟨he, _, hm⟩) | (go_at_call 34; exact (RB _).mono fun _ _ ⟨he, hm⟩ => ⟨he, _, hm⟩))
    all_goals go_wp2
    all_goals go_ret
    all_goals exact ⟨rfl, HH.out, bel_drewN (Below.refl _ _)⟩
  cases d4 : ((rootAt G (k2 : Int)).1 == 2)
  · rw [turned_no (bCan_no2 (leads_no2 d4))]
    rw [r1] at d3
    rw [r2] at d4
    clear T O N hb h6 d1 d2 i1 i2 z1 er
    generalize G.roots.getD k1 refD = e1 at *
    generalize G.roots.getD k2 refD = e2 at *
    obtain ⟨e11, e12⟩ := e1
    obtain ⟨e21, e22⟩ := e2
    have d5 : (e21 != 2) = true := by simp only [bne, d4]; rfl
    have d6 : e11 = 2 := by simpa using d3
    subst d6
    clear d3 d4 r1 r2
    go_enter Try.func18, Try.ntmps18
    go_wp2_with fail
    go_quiet (first | (go_at_call 34; exact (RA _).mono fun _ _ ⟨he, hm⟩ => ⟨he, _, hm⟩) | (go_at_call 34; exact (RB _).mono fun _ _ ⟨he, hm⟩ => ⟨he, _, hm⟩))
    all_goals go_wp2
    all_goals go_ret
    all_goals exact ⟨rfl, HH.out, bel_drewN (Below.refl _ _)⟩
  have d6 : (G.roots.getD k1 refD).1 = 2 := by rw [r1] at d3; simpa using d3
  have d7 : (G.roots.getD k2 refD).1 = 2 := by rw [r2] at d4; simpa using d4
  rw [d6] at x0
  rw [d7] at y0
  cases d5 : ((rootAt G (k1 : Int)).2 == (rootAt G (k2 : Int)).2)
  case true =>
    rw [turned_no (bCan_no3 d5)]
    rw [r1, r2] at d5
    have d8 : (G.roots.getD k1 refD).2 = (G.roots.getD k2 refD).2 := by simpa using d5
    rw [d8] at x1
    clear T O N hb h6 d1 d2 i1 i2 z1 er d5 d3 d4 d6 d7 d8 r1 r2
    generalize (G.roots.getD k2 refD).2 = e22 at *
    go_enter Try.func18, Try.ntmps18
    go_wp2_with fail
    go_quiet (first | (go_at_call 34; exact (RA _).mono fun _ _ ⟨he, hm⟩ => ⟨he, _, hm⟩) | (go_at_call 34; exact (RB _).mono fun _ _ ⟨he, hm⟩ => ⟨he, _, hm⟩))
    all_goals go_wp2
    all_goals go_ret
    all_goals exact ⟨rfl, HH.out, bel_drewN (Below.refl _ _)⟩
  case false =>
    have hl1 : leads G (k1 : Int) = true := by unfold leads; rw [d1, d3]; rfl
    have hl2 : leads G (k2 : Int) = true := by unfold leads; rw [d2, d4]; rfl
    rw [turned_yes (by unfold bCan; rw [hl1, hl2]; simp only [bne, d5]; rfl)]
    rw [r1, r2] at d5
    rw [r1, r2]
    have HBS0 : Hid (∀ n, BS w (w.drewN n) base P o r m ms G (bRef (G.roots.getD k1 refD).2 (G.roots.getD k2 refD).2 both) 0 0) := fun n => (bs_zero T O N hb).below (bel_drewN (Below.refl _ _))
    have hno : Hid ((G.roots.getD k1 refD).2 = (G.roots.getD k2 refD).2 → False) := fun e => by rw [e] at d5; simp at d5
    clear HH T O N hb d1 d2 i1 i2 d3 d4 d6 d7 r1 r2 hl1 hl2 z1
    generalize (G.roots.getD k1 refD).2 = X at *
    generalize (G.roots.getD k2 refD).2 = Y at *
    have H6 : Hid _ := h6
    have HER : Hid _ := er
    clear h6 er
    obtain ⟨f, hf⟩ : ∃ f, bRef X Y both = f := ⟨_, rfl⟩
    rw [hf] at HBS0 ⊢
    have HF : Hid (∀ e, bRef X Y both e = f e) := fun e => by rw [hf]
    clear hf
    obtain ⟨ma, mc, em, hml, hmq⟩ := BS.form (HBS0.out 0) (k := 1) (by omega)
    have em : m = .slice ma G.mourned.length mc := em
    have hml : G.mourned.length ≤ maxLen := hml
    unfold maxLen at hml
    have HMQ : Hid (0 < G.mourned.length → ∃ q, ma = some ⟨q, 0, none⟩) := hmq
    obtain ⟨oa, oc, eo, hol, hoq⟩ := BS.oform (HBS0.out 0)
    unfold maxLen at hol
    have HOQ : Hid _ := hoq
    have HFO : Hid (∀ k, k < ms.length → ∃ sa sc, (ms.getD k moD).sv = .slice sa (leK G ms (k + 2)).length sc ∧ (leK G ms (k + 2)).length ≤ maxLen ∧ (0 < (leK G ms (k + 2)).length → ∃ q, sa = some ⟨q, 0, none⟩)) := fun k hk => BS.form (HBS0.out 0) (k := k + 2) (by omega)
    clear hmq hoq
    subst em eo
    go_enter Try.func18, Try.ntmps18
    go_wp2_with fail
    go_quiet (first | (go_at_call 34; exact (RA _).mono fun _ _ ⟨he, hm⟩ => ⟨he, _, hm⟩) | (go_at_call 34; exact (RB _).mono fun _ _ ⟨he, hm⟩ => ⟨he, _, hm⟩))
    go_wp2_with fail
    clear x0 x1 y0 y1 z1'
    go_loopw [11] (fun v wz => ∃ i : Nat, i ≤ 6 ∧ v = .int .i64 (i : Int) ∧ BS w wz base P (.slice oa ms.length oc) r (.slice ma G.mourned.length mc) ms G f 0 i) (fun v _ => 6 - (intOf v).toNat)
    case atStart => exact ⟨0, Nat.zero_le _, rfl, HBS0.out _⟩
    case round =>
      obtain ⟨i, hi, rfl, hBS⟩ := hrel
      clear HBS0
      have HB : Hid _ := hBS
      by_cases hlt : i < 6
      · have hlt' : (i : Int) < 6 := by omega
        have hle : i < (leK G ms 0).length := by have := H6.out; show i < G.roots.length; omega
        obtain ⟨c0, c1, f0, f1⟩ := BS.cell hBS (by omega) hle (q := q) HER.out
        obtain ⟨_, z1, _⟩ := five_cells hBS.T
        have er := HER.out
        rw [er, H6.out] at z1
        have LR := l18Ref_any (w := wr.drew) ((leK G ms 0).getD i refD) X Y both
        have e1 := HF.out ((leK G ms 0).getD i refD)
        rw [e1] at LR
        have HALL : Hid (∀ w4, Below wr.drew.heap.size wr.drew w4 → (w4.cell? ⟨P, 1, none⟩ = some (.slice (some ⟨q, 0, none⟩) 6 c) ∧ w4.cell? ⟨q, i * 2, none⟩ = some (.int .i64 ((leK G ms 0).getD i refD).1) ∧ w4.cell? ⟨q, i * 2 + 1, none⟩ = some (.int .i64 ((leK G ms 0).getD i refD).2) ∧ w4.frozen? ⟨q, i * 2, none⟩ = false ∧ w4.frozen? ⟨q, i * 2 + 1, none⟩ = false) ∧ BS w (put2 w4 q i (f ((leK G ms 0).getD i refD))) base P (.slice oa ms.length oc) r (.slice ma G.mourned.length mc) ms G f 0 (i + 1)) := fun w4 b4' => by
          have b4 : Below wr.heap.size wr w4 := ⟨b4'.os, b4'.tape, b4'.output, b4'.size, b4'.block⟩
          have h4 := hBS.below b4
          obtain ⟨c0, c1, f0, f1⟩ := BS.cell h4 (by omega) hle (q := q) HER.out
          obtain ⟨_, z1, _⟩ := five_cells h4.T
          rw [er, H6.out] at z1
          exact ⟨⟨z1, c0, c1, f0, f1⟩, BS.set h4 (by omega) hle HER.out⟩
        clear hBS HB e1 er
        generalize (leK G ms 0).getD i refD = e0 at *
        generalize f e0 = u0 at *
        obtain ⟨e01, e02⟩ := e0
        obtain ⟨u01, u02⟩ := u0
        go_wp2_with fail
        go_region_law (go_simp; go_at_call 35; refine LR.mono ?_; clear LR; rintro e w4 ⟨rfl, b4⟩; obtain ⟨⟨d0, d1, d2, d3, d4⟩, dn⟩ := HALL.out w4 b4; have HN : Hid _ := dn; clear dn b4 HALL)
        all_goals go_wp2
        all_goals exact ⟨⟨i + 1, by omega, by go_num, HN.out⟩, by simp [intOf]; omega⟩
      · have hlt' : ¬ (i : Int) < 6 := by omega
        have e : i = 6 := by omega
        have HB1 : Hid (BS w wr base P (.slice oa ms.length oc) r (.slice ma G.mourned.length mc) ms G f 1 0) := by
          refine BS.next (j := 0) ?_
          rw [e] at hBS
          rw [show (leK G ms 0).length = 6 from H6.out]
          exact hBS
        clear hBS HB e
        go_wp2_with fail
        go_loopw [12] (fun v wz => ∃ i : Nat, i ≤ G.mourned.length ∧ v = .int .i64 (i : Int) ∧ BS w wz base P (.slice oa ms.length oc) r (.slice ma G.mourned.length mc) ms G f 1 i) (fun v _ => G.mourned.length - (intOf v).toNat)
        case atStart => exact ⟨0, Nat.zero_le _, rfl, HB1.out⟩
        case round =>
          obtain ⟨i, hi, rfl, hBS⟩ := hrel
          clear HB1
          by_cases hlt : i < G.mourned.length
          · have hlt' : (i : Int) < (G.mourned.length : Int) := by omega
            have hle : i < (leK G ms 1).length := hlt
            obtain ⟨q1, e⟩ := HMQ.out (by omega)
            subst e
            obtain ⟨c0, c1, f0, f1⟩ := BS.cell hBS (by omega) hle (q := q1) rfl
            obtain ⟨_, _, z2, _⟩ := five_cells hBS.T
            have LR := l18Ref_any (w := wr.drew) ((leK G ms 1).getD i refD) X Y both
            rw [HF.out ((leK G ms 1).getD i refD)] at LR
            have HALL : Hid (∀ w4, Below wr.drew.heap.size wr.drew w4 → (w4.cell? ⟨P, 2, none⟩ = some (.slice (some ⟨q1, 0, none⟩) G.mourned.length mc) ∧ w4.cell? ⟨q1, i * 2, none⟩ = some (.int .i64 ((leK G ms 1).getD i refD).1) ∧ w4.cell? ⟨q1, i * 2 + 1, none⟩ = some (.int .i64 ((leK G ms 1).getD i refD).2) ∧ w4.frozen? ⟨q1, i * 2, none⟩ = false ∧ w4.frozen? ⟨q1, i * 2 + 1, none⟩ = false) ∧ BS w (put2 w4 q1 i (f ((leK G ms 1).getD i refD))) base P (.slice oa ms.length oc) r (.slice (some ⟨q1, 0, none⟩) G.mourned.length mc) ms G f 1 (i + 1)) := fun w4 b4' => by
              have b4 : Below wr.heap.size wr w4 := ⟨b4'.os, b4'.tape, b4'.output, b4'.size, b4'.block⟩
              have h4 := hBS.below b4
              obtain ⟨c0, c1, f0, f1⟩ := BS.cell h4 (by omega) hle (q := q1) rfl
              obtain ⟨_, _, z2, _⟩ := five_cells h4.T
              exact ⟨⟨z2, c0, c1, f0, f1⟩, BS.set h4 (by omega) hle rfl⟩
            clear hBS hle
            generalize (leK G ms 1).getD i refD = e0 at *
            generalize f e0 = u0 at *
            obtain ⟨e01, e02⟩ := e0
            obtain ⟨u01, u02⟩ := u0
            go_wp2_with fail
            go_region_law (go_simp; go_at_call 35; refine LR.mono ?_; clear LR; rintro e w4 ⟨rfl, b4⟩; obtain ⟨⟨d0, d1, d2, d3, d4⟩, dn⟩ := HALL.out w4 b4; have HN : Hid _ := dn; clear dn b4 HALL)
            all_goals go_wp2
            all_goals exact ⟨⟨i + 1, by omega, by go_num, HN.out⟩, by simp [intOf]; omega⟩
          · have hlt' : ¬ (i : Int) < (G.mourned.length : Int) := by omega
            have e : i = G.mourned.length := by omega
            have HB2 : Hid (BS w wr base P (.slice oa ms.length oc) r (.slice ma G.mourned.length mc) ms G f 2 0) := by
              refine BS.next (j := 1) ?_
              rw [e] at hBS
              exact hBS
            obtain ⟨_, _, z2, _⟩ := five_cells hBS.T
            clear hBS e
            go_wp2_with fail
            clear z2
            go_loopw [13] (fun v wz => ∃ k : Nat, k ≤ ms.length ∧ v = .int .i64 (k : Int) ∧ BS w wz base P (.slice oa ms.length oc) r (.slice ma G.mourned.length mc) ms G f (k + 2) 0) (fun v _ => ms.length - (intOf v).toNat)
            case atStart => exact ⟨0, Nat.zero_le _, rfl, HB2.out⟩
            case round =>
              obtain ⟨k, hk, rfl, hBS⟩ := hrel
              clear HB2
              obtain ⟨z0, _⟩ := five_cells hBS.T
              by_cases hlt : k < ms.length
              · have hlt' : (k : Int) < (ms.length : Int) := by omega
                obtain ⟨g, e⟩ := HOQ.out (by omega)
                subst e
                obtain ⟨sa, sc, esv, hsl, hsq⟩ := HFO.out k hlt
                have HLN : Hid (∃ LN, LN = (leK G ms (k + 2)).length) := ⟨_, rfl⟩
                obtain ⟨LN, hLN⟩ := HLN.out
                rw [← hLN] at esv hsl hsq
                unfold maxLen at hsl
                have HLK : Hid _ := hLN
                have HSV : Hid _ := esv
                have HSQ : Hid _ := hsq
                have HB3 : Hid _ := hBS
                clear hBS HLN hLN esv hsq
                go_wp2_with fail
                clear z0
                go_loopw [14] (fun v wz => ∃ j : Nat, j ≤ LN ∧ v = .int .i64 (j : Int) ∧ BS w wz base P (.slice (some ⟨g, 0, none⟩) ms.length oc) r (.slice ma G.mourned.length mc) ms G f (k + 2) j) (fun v _ => LN - (intOf v).toNat)
                case atStart => exact ⟨0, Nat.zero_le _, rfl, HB3.out⟩
                case round =>
                  obtain ⟨j, hj, rfl, hBS⟩ := hrel
                  clear HB3
                  obtain ⟨z0, _⟩ := five_cells hBS.T
                  have gc := BS.slotCell hBS hlt (g := g) rfl
                  rw [HSV.out] at gc
                  by_cases hjt : j < LN
                  · have hjt' : (j : Int) < (LN : Int) := by omega
                    have hle : j < (leK G ms (k + 2)).length := by have := HLK.out; omega
                    obtain ⟨q3, e⟩ := HSQ.out (by omega)
                    subst e
                    obtain ⟨c0, c1, f0, f1⟩ := BS.cell hBS (by omega) hle (q := q3) HSV.out
                    have LR := l18Ref_any (w := wr.drew) ((leK G ms (k + 2)).getD j refD) X Y both
                    rw [HF.out ((leK G ms (k + 2)).getD j refD)] at LR
                    have HALL : Hid (∀ w4, Below wr.drew.heap.size wr.drew w4 → (w4.cell? ⟨P, 0, none⟩ = some (.slice (some ⟨g, 0, none⟩) ms.length oc) ∧ w4.cell? ⟨g, k * 5 + 4, none⟩ = some (.slice (some ⟨q3, 0, none⟩) LN sc) ∧ w4.cell? ⟨q3, j * 2, none⟩ = some (.int .i64 ((leK G ms (k + 2)).getD j refD).1) ∧ w4.cell? ⟨q3, j * 2 + 1, none⟩ = some (.int .i64 ((leK G ms (k + 2)).getD j refD).2) ∧ w4.frozen? ⟨q3, j * 2, none⟩ = false ∧ w4.frozen? ⟨q3, j * 2 + 1, none⟩ = false) ∧ BS w (put2 w4 q3 j (f ((leK G ms (k + 2)).getD j refD))) base P (.slice (some ⟨g, 0, none⟩) ms.length oc) r (.slice ma G.mourned.length mc) ms G f (k + 2) (j + 1)) := fun w4 b4' => by
                      have b4 : Below wr.heap.size wr w4 := ⟨b4'.os, b4'.tape, b4'.output, b4'.size, b4'.block⟩
                      have h4 := hBS.below b4
                      obtain ⟨c0, c1, f0, f1⟩ := BS.cell h4 (by omega) hle (q := q3) HSV.out
                      obtain ⟨z0, _⟩ := five_cells h4.T
                      have gc := BS.slotCell h4 hlt (g := g) rfl
                      rw [HSV.out] at gc
                      exact ⟨⟨z0, gc, c0, c1, f0, f1⟩, BS.set h4 (by omega) hle HSV.out⟩
                    clear hBS hle
                    generalize (leK G ms (k + 2)).getD j refD = e0 at *
                    generalize f e0 = u0 at *
                    obtain ⟨e01, e02⟩ := e0
                    obtain ⟨u01, u02⟩ := u0
                    go_wp2_with fail
                    go_region_law (go_simp; go_at_call 35; refine LR.mono ?_; clear LR; rintro e w4 ⟨rfl, b4⟩; obtain ⟨⟨d0, d1, d2, d3, d4, d5⟩, dn⟩ := HALL.out w4 b4; have HN : Hid _ := dn; clear dn b4 HALL)
                    all_goals go_wp2
                    all_goals exact ⟨⟨j + 1, by omega, by go_num, HN.out⟩, by simp [intOf]; omega⟩
                  · have hjt' : ¬ (j : Int) < (LN : Int) := by omega
                    have e : j = LN := by omega
                    have HE : Hid (BS w wr base P (.slice (some ⟨g, 0, none⟩) ms.length oc) r (.slice ma G.mourned.length mc) ms G f (k + 2 + 1) 0) := by
                      refine BS.next (j := k + 2) ?_
                      rw [e, HLK.out] at hBS
                      exact hBS
                    clear hBS e
                    go_wp2_with fail
                    exact ⟨⟨k + 1, by omega, by go_num, HE.out⟩, by simp [intOf]; omega⟩
              · have hlt' : ¬ (k : Int) < (ms.length : Int) := by omega
                have e : k = ms.length := by omega
                have HE : Hid _ := BS.done (by rw [e] at hBS; exact hBS)
                clear hBS e
                go_wp2
                go_ret
                exact ⟨rfl, HE.out.1, HE.out.2⟩
end Go.Proofs.Ythldaifnlnbpgaa.gr
