/-
  Chapter 7 as the specification has it: l7Grieving. Chapter 7 as the specification has it: l7Mourn. Chapter 7 as the specification has it: Mourning. Chapter 7 as the specification has it: l7Collected. Chapter 7: what is collected is no greater than what it was collected of.
-/
import Derived.Test.YtfajnnibkcnkaalM18
import Derived.Test.YtfajnnibkcnkaalM9
import Derived.Deep.QuietTactic
import Derived.BigQuiet
import Derived.Test.YtfajnnibkcnkaalM12
import Derived.Test.YtfajnnibkcnkaalM7
import Derived.Test.YtfajnnibkcnkaalM17
import Derived.Test.YtfajnnibkcnkaalM13
namespace Go.Proofs.Ytfajnnibkcnkaal.gr
open Go.RowKit rows heads region
set_option maxRecDepth 100000
set_option linter.unusedVariables false

/-- The Ids, the Hashes at these places. -/
abbrev idsG (os : List Ob) (ps : List Nat) : List Int := ps.map fun p => (os.getD p obD).id
abbrev hshG (os : List Ob) (ps : List Nat) : List Int := ps.map fun p => (os.getD p obD).hash
theorem rs_f0 (b : Nat) (w : World) : (Instr.fieldAt 51 (.pointer (some ⟨b, 0, none⟩)) 0).run Try.prog w = .ok (.pointer (some ⟨b, 0, none⟩)) w := by
  go_simp
theorem rs_f3 (b : Nat) (w : World) : (Instr.fieldAt 51 (.pointer (some ⟨b, 0, none⟩)) 3).run Try.prog w = .ok (.pointer (some ⟨b, 3, none⟩)) w := by
  go_simp
theorem rs_cut {g n c i : Nat} (hi : (i : Int) ≤ n) (hc : (n : Int) ≤ c) (hm : c ≤ 9223372036854775807) (w : World) : (Instr.sliceAt 27 (.slice (some ⟨g, 0, none⟩) n c) none (some (.int .i64 (i : Int))) none).run Try.prog w = .ok (.slice (some ⟨g, 0, none⟩) i c) w := by
  have h2 : (i : Int) ≤ c := by omega
  go_simp

set_option maxHeartbeats 16000000 in
theorem l7Grieving_any {w : World} {o r m : Value} {ms : List MO} {G : Gr} (h : GraphAt w o r m ms G) (hok : gOk G = true) {ps : List Nat} (hz : IsG G ps) :
    Calls Try.prog 39 #[gv o r m G.next G.seed] w fun e w' => ∃ v, e = .returned v ∧ Own w' w.heap.size v (idsG G.objs ps) ∧ Below w.heap.size w w' := by
  obtain ⟨f, hf⟩ : ∃ f : Nat → Bool, ∀ p, f p = true ↔ Grv G p := by
    classical
    exact ⟨fun p => decide (Grv G p), fun p => by simp⟩
  have hps : ps = sortG G.objs f G.objs.length := isG_unique hz (isG_sort hok fun p _ => hf p)
  obtain ⟨a1, n1, c1, a2, n2, c2, a3, n3, c3, e1, e2, e3⟩ := graphAt_slices h
  subst e1 e2 e3
  obtain ⟨ao, co, eo, _⟩ := h.2.1.1
  injection eo with e1 e2 e3
  subst e1 e2 e3
  obtain ⟨ys, hy⟩ := isR_ex G
  have B : Below w.heap.size w (w.alloc (gb (.slice a1 ms.length c1) (.slice a2 n2 c2) (.slice a3 n3 c3) G.next G.seed)) := (Below.refl _ w).alloc (Nat.le_refl _) _
  have T := five_new w 32 (.slice a1 ms.length c1) (.slice a2 n2 c2) (.slice a3 n3 c3) (.int .i64 G.next) (.int .i64 G.seed)
  have L7 := l7Reached_any (graphAt_below h B) hok hy
  have hlen := graphAt_len h
  have hms : ms.length ≤ 200 := by rw [hlen]; exact (gOk_len hok).1
  have hyl : ys.length ≤ 200 := Nat.le_trans (isR_len hy) (gOk_len hok).1
  have HG : Hid _ := h
  have HOK : Hid _ := hok
  have HF : Hid _ := hf
  have HPS : Hid _ := hps
  have HY : Hid _ := hy
  have HB : Hid _ := B
  have HT : Hid _ := T
  have HLEN : Hid _ := hlen
  clear h hok hf hps hy B T hlen hz
  go_enter Try.func39, Try.ntmps39
  go_wp2_with fail
  generalize hX : (w.alloc (gb (.slice a1 ms.length c1) (.slice a2 n2 c2) (.slice a3 n3 c3) G.next G.seed)) = X at *
  clear hX
  refine L7.mono ?_
  rintro e w1 ⟨v1, rfl, O1, b1⟩
  obtain ⟨ra, rc, hrv⟩ : ∃ a c, v1 = .slice a ys.length c := by
    obtain ⟨a, c, e, _⟩ := own_ints O1
    exact ⟨a, c, e⟩
  subst hrv
  have B1 := HB.out.trans (b1.mono HB.out.size)
  have T1 := five_below HT.out b1
  have N2 : Below w1.heap.size w1 ((w1.alloc (.cells #[] 2)).alloc (.cells #[] 2)) := ((Below.refl _ _).alloc (Nat.le_refl _) _).alloc (by simp) _
  have HR2 : Hid _ := own_ints (own_below O1 N2)
  have HB2 : Hid _ := B1.trans (N2.mono B1.size)
  have HT2 : Hid _ := five_below T1 N2
  have HO4 : Hid (Own ((w1.alloc (.cells #[] 2)).alloc (.cells #[] 2)) w.heap.size (.slice (some ⟨w1.heap.size, 0, none⟩) 0 0) []) := ⟨rfl, .inr ⟨w1.heap.size, 0, #[], rfl, B1.size, (Below.heap_alloc _ _ _ (by simp)).trans (heap_alloc_new w1 _), Nat.le_refl _, by decide, rfl, rfl⟩⟩
  have HO5 : Hid (Own ((w1.alloc (.cells #[] 2)).alloc (.cells #[] 2)) w.heap.size (.slice (some ⟨w1.heap.size + 1, 0, none⟩) 0 0) []) := ⟨rfl, .inr ⟨w1.heap.size + 1, 0, #[], rfl, Nat.le_succ_of_le B1.size, at_newS (by simp), Nat.le_refl _, by decide, rfl, rfl⟩⟩
  clear L7 HB HT B1 T1 N2 O1 b1
  go_wp2_with fail
  generalize hX2 : ((w1.alloc (.cells #[] 2)).alloc (.cells #[] 2)) = X2 at *
  clear hX2
  go_loopw [4, 5, 6] (fun v u p wr => ∃ (k : Nat) (g4 c4 g5 c5 : Nat), k ≤ ms.length ∧ p = .int .i64 k ∧ v = .slice (some ⟨g4, 0, none⟩) (sortG G.objs f k).length c4 ∧ u = .slice (some ⟨g5, 0, none⟩) (sortG G.objs f k).length c5 ∧ Own wr w.heap.size (.slice (some ⟨g4, 0, none⟩) (sortG G.objs f k).length c4) (idsG G.objs (sortG G.objs f k)) ∧ Own wr w.heap.size (.slice (some ⟨g5, 0, none⟩) (sortG G.objs f k).length c5) (hshG G.objs (sortG G.objs f k)) ∧ Below X2.heap.size X2 wr) (fun _ _ p _ => ms.length - (intOf p).toNat)
  case atStart => exact ⟨0, _, _, _, _, Nat.zero_le _, rfl, rfl, rfl, HO4.out, HO5.out, Below.refl _ _⟩
  case round =>
    clear HO4 HO5
    obtain ⟨k, g4, c4, g5, c5, hk, rfl, rfl, rfl, hO4, hO5, hB⟩ := hrel
    have HO4 : Hid _ := hO4
    have HO5 : Hid _ := hO5
    have HBX : Hid _ := hB
    obtain ⟨q0, _⟩ := five_cells (five_below HT2.out hB)
    by_cases hlt : k < ms.length
    · obtain ⟨ao, co, eo, _, _, _, hco⟩ := orowAt_below HG.out.2.1.1 (HB2.out.trans (hB.mono HB2.out.size))
      injection eo with e1 e2 e3
      subst e1 e3
      obtain ⟨b1, off1, rfl, hb1, hcc1⟩ := hco (by omega)
      obtain ⟨x0, x1, x2, x3, x4⟩ := hcc1 k hlt
      have hmo : (ms.getD k moD).abs = G.objs.getD k obD := graphAt_get HG.out k
      have hsv := refsAt_below (HG.out.2.1.2 _ (mem_getD hlt)) (HB2.out.trans (hB.mono HB2.out.size))
      obtain ⟨sa, sc, hsl, _⟩ := id hsv
      have hkG : k < G.objs.length := by rw [← HLEN.out]; exact hlt
      have hIdM : ∀ q, q < G.objs.length → ((G.objs.getD q obD).id ∈ ys ↔ Rch G q) := fun q hq => by
        rw [isR_mem HY.out]
        constructor
        · rintro ⟨p, hp, e⟩
          rw [rise_inj (gOk_rise HOK.out) (rch_lt hp) hq e] at hp
          exact hp
        · intro hp; exact ⟨q, hp, rfl⟩
      have HKEY : Hid ((ms.getD k moD).fmt = 2 → 0 < (ms.getD k moD).slots.length) := fun e => by
        have h1 := (right_key HOK.out hkG (by rw [← hmo]; exact e)).1
        rw [← hmo] at h1
        exact h1
      have HIN : Hid ((ms.getD k moD).id ∈ ys ↔ Rch G k) := by
        have := hIdM k hkG
        rw [← hmo] at this
        exact this
      have HFM : Hid ((G.objs.getD k obD).fmt = (ms.getD k moD).fmt) := by show _ = _; rw [← hmo]; rfl
      have HHS : Hid ((G.objs.getD k obD).hash = (ms.getD k moD).hash) := by show _ = _; rw [← hmo]; rfl
      have HID : Hid ((G.objs.getD k obD).id = (ms.getD k moD).id) := by show _ = _; rw [← hmo]; rfl
      have HKX : Hid ((ms.getD k moD).fmt = 2 → ((ms.getD k moD).slots.getD 0 refD).1 = 2 → ∃ q, awt G.objs (G.objs.getD k obD) = some q ∧ (((ms.getD k moD).slots.getD 0 refD).2 ∈ ys ↔ Rch G q)) := fun e1 e2 => by
        have hmm := (right_key HOK.out hkG (by rw [← hmo]; exact e1)).2
        have hl := right_ref HOK.out (.inr ⟨k, hkG, hmm⟩) (by rw [← hmo]; exact e2)
        rw [← hmo] at hl
        refine ⟨ledP G.objs ((ms.getD k moD).slots.getD 0 refD), ?_, ?_⟩
        · unfold awt
          rw [← hmo]
          exact if_pos ⟨e1, hl.1⟩
        · have := hIdM _ (ledP_lt hl.1)
          rw [hl.2] at this
          exact this
      have HKN : Hid (¬ ((ms.getD k moD).slots.getD 0 refD).1 = 2 → awt G.objs (G.objs.getD k obD) = none) := fun e => by
        unfold awt
        rw [if_neg]
        rintro ⟨_, h2⟩
        rw [← hmo] at h2
        exact e (led_two h2)
      clear hmo hco hcc1 hIdM
      generalize ms.getD k moD = mo at *
      obtain ⟨mi, mc, mf, mh, msv, msl⟩ := mo
      simp only at x0 x1 x2 x3 x4 hsl hsv HKEY HIN HFM HHS HID HKX HKN
      subst hsl
      have BY : Below wr.heap.size wr (wr.alloc (ob ⟨mi, mc, mf, mh, .slice sa msl.length sc, msl⟩)) := (Below.refl _ _).alloc (Nat.le_refl _) _
      have TY := five_new wr 51 (.int .i64 mi) (.int .i64 mc) (.int .i64 mf) (.int .i64 mh) (.slice sa msl.length sc)
      obtain ⟨t0, t1, t2, t3, t4, _⟩ := five_cells TY
      have HTY : Hid _ := TY
      have HBY : Hid (Below X2.heap.size X2 (wr.alloc (ob ⟨mi, mc, mf, mh, .slice sa msl.length sc, msl⟩))) := hB.trans (BY.mono hB.size)
      have HRY : Hid _ := intsAt_below HR2.out HBY.out
      have HY4 : Hid _ := own_below hO4 BY
      have HY5 : Hid _ := own_below hO5 BY
      have HNO : Hid (f k = false → sortG G.objs f (k + 1) = sortG G.objs f k) := fun e => by
        show (if f k = true then _ else _) = _
        rw [e]
        rfl
      have HYES : Hid (f k = true → sortG G.objs f (k + 1) = insG G.objs k (sortG G.objs f k)) := fun e => by
        show (if f k = true then _ else _) = _
        rw [if_pos e]
      have hsn := len_sortG G.objs f k
      have HFK : Hid _ := HF.out k
      have HSVY : Hid _ := refsAt_below hsv BY
      clear hO4 hO5 hB hsv BY TY e2 hkG
      obtain ⟨ss, hss⟩ : ∃ ss, sortG G.objs f k = ss := ⟨_, rfl⟩
      rw [hss] at hsn
      simp only [hss] at HO4 HO5 HY4 HY5 HNO HYES ⊢
      have HSS : Hid _ := hss
      clear hss
      have HSKIP : Hid (f k = false → ∃ (k' g4' c4' g5' c5' : Nat), k' ≤ ms.length ∧ Value.int .i64 ((k : Int) + 1) = .int .i64 k' ∧ Value.slice (some ⟨g4, 0, none⟩) ss.length c4 = .slice (some ⟨g4', 0, none⟩) (sortG G.objs f k').length c4' ∧ Value.slice (some ⟨g5, 0, none⟩) ss.length c5 = .slice (some ⟨g5', 0, none⟩) (sortG G.objs f k').length c5' ∧ Own (wr.alloc (ob ⟨mi, mc, mf, mh, .slice sa msl.length sc, msl⟩)) w.heap.size (.slice (some ⟨g4', 0, none⟩) (sortG G.objs f k').length c4') (idsG G.objs (sortG G.objs f k')) ∧ Own (wr.alloc (ob ⟨mi, mc, mf, mh, .slice sa msl.length sc, msl⟩)) w.heap.size (.slice (some ⟨g5', 0, none⟩) (sortG G.objs f k').length c5') (hshG G.objs (sortG G.objs f k')) ∧ Below X2.heap.size X2 (wr.alloc (ob ⟨mi, mc, mf, mh, .slice sa msl.length sc, msl⟩))) := fun e => ⟨k + 1, g4, c4, g5, c5, by omega, by simp, by rw [HNO.out e], by rw [HNO.out e], by rw [HNO.out e]; exact HY4.out, by rw [HNO.out e]; exact HY5.out, HBY.out⟩
      by_cases hf2 : mf = 2
      · subst hf2
        by_cases hi1 : mi ∈ ys
        · have HS1 := l1Has_any HRY.out (by omega) mi
          rw [decide_eq_true hi1] at HS1
          have h0 := HKEY.out rfl
          obtain ⟨a', cap', e, _, _, _, hc⟩ := id HSVY.out
          injection e with e1 e2 e3
          subst e1 e3
          obtain ⟨b0, off0, rfl, hb0, hcc0⟩ := hc h0
          obtain ⟨r0, r1⟩ := hcc0 0 h0
          rw [show off0 + 0 * 2 = off0 by omega] at r0 r1
          clear hc hcc0 e2
          have h1n : (1 : Int) ≤ (msl.length : Int) := by omega
          obtain ⟨e0, he0⟩ : ∃ e0, msl.getD 0 refD = e0 := ⟨_, rfl⟩
          rw [he0] at r0 r1
          rw [he0] at HKX HKN
          obtain ⟨k0, nk0⟩ := e0
          simp only at r0 r1 HKX HKN
          by_cases hk2 : k0 = 2
          · subst hk2
            obtain ⟨qq, haw, hqq⟩ := HKX.out (by trivial) (by trivial)
            have HS2 := l1Has_any HRY.out (by omega) nk0
            by_cases hi2 : nk0 ∈ ys
            · rw [decide_eq_true hi2] at HS2
              have hfk : f k = false := by
                cases e : f k
                · rfl
                · obtain ⟨_, _, q', h1, h2⟩ := HFK.out.1 e
                  rw [haw] at h1
                  injection h1 with h1
                  exact absurd (hqq.1 hi2) (by rw [h1]; exact h2)
              have HX : Hid _ := HSKIP.out hfk
              clear HSKIP HNO HYES HKX HKN HIN hqq haw hfk he0
              go_wp2_with (first | (have hh := HS1; clear hh; go_at_call 62; refine HS1.mono ?_; clear HS1; rintro e w4 ⟨rfl, hw4⟩; rw [hw4]; clear hw4) | (go_at_call 62; refine HS2.mono ?_; clear HS2; rintro e w4 ⟨rfl, hw4⟩; rw [hw4]; clear hw4))
              exact ⟨HX.out, by simp [intOf]; omega⟩
            · rw [decide_eq_false hi2] at HS2
              have hfk : f k = true := HFK.out.2 ⟨HIN.out.1 hi1, HFM.out, qq, haw, fun e => hi2 (hqq.2 e)⟩
              have HX : Hid _ := HYES.out hfk
              clear HSKIP HNO HYES HKX HKN HIN hqq haw hfk he0
              go_wp2_with (first | (have hh := HS1; clear hh; go_at_call 62; refine HS1.mono ?_; clear HS1; rintro e w4 ⟨rfl, hw4⟩; rw [hw4]; clear hw4) | (go_at_call 62; refine HS2.mono ?_; clear HS2; rintro e w4 ⟨rfl, hw4⟩; rw [hw4]; clear hw4))
              generalize hYY : (wr.alloc (ob ⟨mi, mc, 2, mh, .slice (some ⟨b0, off0, none⟩) msl.length sc, msl⟩)) = Y at *
              generalize hP7 : wr.heap.size = P7 at *
              clear hYY t0 t1 t2 t4 q0 x0 x1 x2 x3 x4
              obtain ⟨a5, cp5, e5, hlc5, hcm5, _, hc5⟩ := own_ints HY5.out
              rw [List.length_map] at e5 hlc5
              injection e5 with e51 e52 e53
              subst e51 e53
              obtain ⟨a4, cp4, e4, hlc4, hcm4, _, _⟩ := own_ints HY4.out
              rw [List.length_map] at e4 hlc4
              injection e4 with e41 e42 e43
              subst e41 e43
              have hcm5' : c5 ≤ 9223372036854775807 := hcm5
              have hcm4' : c4 ≤ 9223372036854775807 := hcm4
              have HC5 : Hid _ := hc5
              clear hc5 e52 e42
              go_loopw [8] (fun p wz => ∃ i : Nat, i ≤ ss.length ∧ p = .int .i64 i ∧ (∀ j, j < i → (hshG G.objs ss).getD j 0 ≤ mh) ∧ ∃ q, wz = Y.drewN q) (fun p _ => ss.length - (intOf p).toNat)
              case atStart => exact ⟨0, Nat.zero_le _, rfl, fun j hj => by omega, 0, rfl⟩
              case round =>
                obtain ⟨i, hi, rfl, hall, q, hwz⟩ := hrel
                subst hwz
                by_cases hgo : i < ss.length ∧ (hshG G.objs ss).getD i 0 ≤ mh
                · obtain ⟨hil, hle⟩ := hgo
                  obtain ⟨b5, o5, e6, _, hcc5⟩ := HC5.out (by rw [List.length_map]; omega)
                  injection e6 with e6
                  injection e6 with e61 e62
                  subst e61 e62
                  have cc := hcc5 i (by rw [List.length_map]; exact hil)
                  rw [Nat.zero_add] at cc
                  have HV : Hid (∀ j, j < i + 1 → (hshG G.objs ss).getD j 0 ≤ mh) := fun j hj => by
                    by_cases e : j = i
                    · rw [e]; exact hle
                    · exact hall j (by omega)
                  clear hcc5 hall
                  generalize (hshG G.objs ss).getD i 0 = hh at *
                  have hil' : (i : Int) < (ss.length : Int) := by omega
                  go_wp2_with fail
                  go_quiet (fail)
                  go_wp2
                  exact ⟨⟨i + 1, by omega, by go_num, HV, _, rfl⟩, by simp [intOf]; omega⟩
                · by_cases hcase : i < ss.length
                  · have hle : ¬ (hshG G.objs ss).getD i 0 ≤ mh := fun e => hgo ⟨hcase, e⟩
                    obtain ⟨b5, o5, e6, _, hcc5⟩ := HC5.out (by rw [List.length_map]; omega)
                    injection e6 with e6
                    injection e6 with e61 e62
                    subst e61 e62
                    have cc := hcc5 i (by rw [List.length_map]; exact hcase)
                    rw [Nat.zero_add] at cc
                    have HNLE : Hid _ := hle
                    clear hcc5
                    generalize hhx : (hshG G.objs ss).getD i 0 = hh at *
                    have hil' : (i : Int) < (ss.length : Int) := by omega
                    go_wp2_with fail
                    go_quiet (fail)
                    have HP4 : Hid (∀ n o c, (o = i ∧ c = c4 - i ∨ i = ss.length ∧ c4 = i ∧ o = 0 ∧ c = 0) → IntsAt (Y.drewN n) (.slice (some ⟨g4, o, none⟩) (ss.length - i) c) ((idsG G.objs ss).drop i)) := by
                      intro n o c h
                      rcases h with ⟨rfl, rfl⟩ | ⟨h1, h2, rfl, rfl⟩
                      · exact ints_drop (w := Y) (b := g4) (off := 0) (n := ss.length) (cap := c4) (own_ints HY4.out) hi (fun h => by rw [Nat.zero_add]) (fun h => by cases h)
                      · have := ints_drop (w := Y) (b := g4) (off := 0) (n := ss.length) (cap := c4) (k := i) (own_ints HY4.out) hi (a := some ⟨g4, 0, none⟩) (fun h => by omega) (fun h => by cases h)
                        rw [show c4 - i = 0 by omega] at this
                        exact this
                    have HP5 : Hid (∀ W o c, Below Y.heap.size Y W → (o = i ∧ c = c5 - i ∨ i = ss.length ∧ c5 = i ∧ o = 0 ∧ c = 0) → IntsAt W (.slice (some ⟨g5, o, none⟩) (ss.length - i) c) ((hshG G.objs ss).drop i)) := by
                      intro W o c hW h
                      refine intsAt_below ?_ hW
                      rcases h with ⟨rfl, rfl⟩ | ⟨h1, h2, rfl, rfl⟩
                      · exact ints_drop (w := Y) (b := g5) (off := 0) (n := ss.length) (cap := c5) (own_ints HY5.out) hi (fun h => by rw [Nat.zero_add]) (fun h => by cases h)
                      · have := ints_drop (w := Y) (b := g5) (off := 0) (n := ss.length) (cap := c5) (k := i) (own_ints HY5.out) hi (a := some ⟨g5, 0, none⟩) (fun h => by omega) (fun h => by cases h)
                        rw [show c5 - i = 0 by omega] at this
                        exact this
                    have HQ4 : Hid (∀ n, IntsAt (Y.drewN n) (.slice (if c4 = i then (some ⟨g4, 0, none⟩ : Option Addr) else some ⟨g4, i, none⟩) (ss.length - i) (c4 - i)) ((idsG G.objs ss).drop i)) := fun n => ints_drop (w := Y) (b := g4) (off := 0) (n := ss.length) (cap := c4) (own_ints HY4.out) hi (fun h => by rw [if_neg (by omega), Nat.zero_add]) (fun h => by split at h <;> cases h)
                    have HQ5 : Hid (∀ W, Below Y.heap.size Y W → IntsAt W (.slice (if c5 = i then (some ⟨g5, 0, none⟩ : Option Addr) else some ⟨g5, i, none⟩) (ss.length - i) (c5 - i)) ((hshG G.objs ss).drop i)) := fun W hW => intsAt_below (ints_drop (w := Y) (b := g5) (off := 0) (n := ss.length) (cap := c5) (own_ints HY5.out) hi (fun h => by rw [if_neg (by omega), Nat.zero_add]) (fun h => by split at h <;> cases h)) hW
                    go_wp2_with (first
                      | (refine wpList_copiedN (n := ss.length - i) (xs := (idsG G.objs ss).drop i) ?_ (by omega) rfl (.tmp 69) (.tmp 72) rfl rfl rfl ?_; (first | exact HQ4.out _ | exact HP4.out _ _ _ (Or.inl ⟨rfl, rfl⟩) | exact HP4.out _ _ _ (Or.inr ⟨by omega, by omega, rfl, rfl⟩)); intro ga ca wa hga hOa hBa; (try generalize (if c4 = i then (some ⟨g4, 0, none⟩ : Option Addr) else some ⟨g4, i, none⟩) = z4); have BYa : Below Y.heap.size Y wa := ⟨hBa.os, hBa.tape, hBa.output, hBa.size, hBa.block⟩; have HBYa : Hid _ := BYa; have HRa : Hid (IntsAt wa (.slice (some ⟨ga, 0, none⟩) (ss.length - i) ca) ((idsG G.objs ss).drop i)) := own_ints (own_row hOa (by simp)); clear hOa hBa hga BYa)
                      | (refine wpList_copiedN (n := ss.length - i) (xs := (hshG G.objs ss).drop i) ?_ (by omega) rfl (.tmp 74) (.tmp 77) rfl rfl rfl ?_; (first | exact HQ5.out _ HBYa.out | exact HP5.out _ _ _ HBYa.out (Or.inl ⟨rfl, rfl⟩) | exact HP5.out _ _ _ HBYa.out (Or.inr ⟨by omega, by omega, rfl, rfl⟩)); intro gb' cb wb hgb hOb hBb; (try generalize (if c5 = i then (some ⟨g5, 0, none⟩ : Option Addr) else some ⟨g5, i, none⟩) = z5); have HBYb : Hid (Below Y.heap.size Y wb) := HBYa.out.trans (hBb.mono HBYa.out.size); have HRa2 : Hid _ := intsAt_below HRa.out hBb; have HRb : Hid (IntsAt wb (.slice (some ⟨gb', 0, none⟩) (ss.length - i) cb) ((hshG G.objs ss).drop i)) := own_ints (own_row hOb (by simp)); clear hOb hBb hgb))
                    clear HQ4 HQ5 HP4 HP5
                    have TYb := five_below HTY.out HBYb.out
                    have l7 := lt_of_block TYb
                    have f0 := (five_cells TYb).1
                    have szb : w.heap.size ≤ wb.heap.size := Nat.le_trans HB2.out.size (Nat.le_trans HBY.out.size HBYb.out.size)
                    have hT4 := intsAt_below (ints_take (own_ints HY4.out) hi) HBYb.out
                    go_cut [4] from 15 to 100 (fun v wx => ∃ g c : Nat, v = .slice (some ⟨g, 0, none⟩) (ss.length + 1) c ∧ Hid (Own wx w.heap.size (.slice (some ⟨g, 0, none⟩) (ss.length + 1) c) ((idsG G.objs ss).take i ++ mi :: (idsG G.objs ss).drop i)) ∧ Hid (Below wb.heap.size wb wx))
                    case first =>
                      refine regPut (s0 := 79) (ls := 4) (rs := 9) (P7 := P7) (fd := 0) (kk := i) (m := ss.length - i) (x := mi) (T := (idsG G.objs ss).take i) (D := (idsG G.objs ss).drop i) (lv := .slice (some ⟨g4, 0, none⟩) ss.length c4) (pv := .slice (some ⟨g4, 0, none⟩) i c4) (rv := .slice (some ⟨ga, 0, none⟩) (ss.length - i) ca) (a := some ⟨g4, 0, none⟩) (cap := c4) (gr := ga) (cr := ca) (by simp) ?_ rfl ⟨_, rfl, rfl, rfl, by simp [Region.binds]⟩ ⟨_, rfl, rfl, rfl, by simp [Region.binds]⟩ ⟨_, rfl, rfl, rfl, by simp [Region.binds]⟩ ⟨_, rfl, rfl, rfl, by simp [Region.binds]⟩ ⟨_, rfl, rfl, rfl, by simp [Region.binds]⟩ ⟨_, rfl, rfl, rfl, by simp [Region.binds]⟩ ⟨_, rfl, rfl, rfl, by simp [Region.binds]⟩ ⟨_, rfl, rfl, rfl, by simp [Region.binds]⟩ ⟨_, rfl, rfl, rfl, by simp [Region.binds]⟩ ⟨_, rfl, rfl, rfl, by simp [Region.binds]⟩ ⟨_, rfl, rfl, rfl, by simp [Region.binds]⟩ ⟨_, rfl, rfl, rfl, by simp [Region.binds]⟩ (by decide) (by decide) (by decide) (by decide) (by decide) (by decide) (by simp) rfl rfl rfl rfl (rs_cut (by omega) (by omega) (by omega)) (rs_f0 P7) l7 f0 rfl hT4 rfl HRa2.out (by omega) (by omega) ?_
                      · intro k' o' ho' e' he'
                        have hk' : k' < 12 := (Array.getElem?_eq_some_iff.1 ho').1
                        rcases (show k' = 0 ∨ k' = 1 ∨ k' = 2 ∨ k' = 3 ∨ k' = 4 ∨ k' = 5 ∨ k' = 6 ∨ k' = 7 ∨ k' = 8 ∨ k' = 9 ∨ k' = 10 ∨ k' = 11 by omega) with rfl | rfl | rfl | rfl | rfl | rfl | rfl | rfl | rfl | rfl | rfl | rfl
                        all_goals
                          injection ho' with ho'
                          subst ho'
                          simp at he'
                          try omega
                        all_goals
                          first
                            | (subst he'; decide)
                            | (rcases he' with rfl | rfl <;> decide)
                            | (rcases he' with rfl | rfl | rfl <;> decide)
                            | (rcases he' with rfl | rfl | rfl | rfl <;> decide)
                            | (rcases he' with rfl | rfl | rfl | rfl | rfl <;> decide)
                            | (rcases he' with rfl | rfl | rfl | rfl | rfl | rfl <;> decide)
                            | (rcases he' with rfl | rfl | rfl | rfl | rfl | rfl | rfl <;> decide)
                            | (rcases he' with rfl | rfl | rfl | rfl | rfl | rfl | rfl | rfl <;> decide)
                            | (rcases he' with rfl | rfl | rfl | rfl | rfl | rfl | rfl | rfl | rfl <;> decide)
                            | (rcases he' with rfl | rfl | rfl | rfl | rfl | rfl | rfl | rfl | rfl | rfl <;> decide)
                            | (rcases he' with rfl | rfl | rfl | rfl | rfl | rfl | rfl | rfl | rfl | rfl | rfl <;> decide)
                            | (rcases he' with rfl | rfl | rfl | rfl | rfl | rfl | rfl | rfl | rfl | rfl | rfl | rfl <;> decide)
                            | (rcases he' with rfl | rfl | rfl | rfl | rfl | rfl | rfl | rfl | rfl | rfl | rfl | rfl | rfl <;> decide)
                            | (rcases he' with rfl | rfl | rfl | rfl | rfl | rfl | rfl | rfl | rfl | rfl | rfl | rfl | rfl | rfl <;> decide)
                            | (rcases he' with rfl | rfl | rfl | rfl | rfl | rfl | rfl | rfl | rfl | rfl | rfl | rfl | rfl | rfl | rfl <;> decide)
                            | (rcases he' with rfl | rfl | rfl | rfl | rfl | rfl | rfl | rfl | rfl | rfl | rfl | rfl | rfl | rfl | rfl | rfl <;> decide)
                            | (rcases he' with rfl | rfl | rfl | rfl | rfl | rfl | rfl | rfl | rfl | rfl | rfl | rfl | rfl | rfl | rfl | rfl | rfl <;> decide)
                      · rintro u w' v hu hrow hb
                        obtain ⟨gq, cq, hv⟩ : ∃ g c, v = .slice (some ⟨g, 0, none⟩) (ss.length + 1) c := by
                          obtain ⟨_, ⟨_, q0⟩ | ⟨g, c', cur, q1, _⟩⟩ := id hrow
                          · omega
                          · exact ⟨g, c', by rw [q1]; congr 1; omega⟩
                        subst hv
                        have ow := own_put (R := (idsG G.objs ss).take i ++ mi :: (idsG G.objs ss).drop i) rfl (by simp; omega) (row_base hrow szb)
                        rename_i J K' HJ HK
                        exact HK _ _ (Met.intro (HJ _ _ ⟨u 4, _, _, _, _, _, _, _, _, _, _, _, _, _, _, _, _, _, _, _, _, _, _, _, _, _, _, _, _, _, _, _, _, _, _, _, _, _, _, _, _, _, _, _, _, _, _, _, _, _, _, _, _, _, _, _, _, _, _, _, _, _, _, _, _, _, _, _, _, _, _, _, _, _, _, _, _, _, _, _, _, _, _, _, _, _, _, ⟨gq, cq, hu, ow, hb⟩, rfl⟩))
                    obtain ⟨g6, c6, rfl, HO6, HB6⟩ := hcut
                    obtain ⟨wd, hwd⟩ : ∃ wd, wd = wc := ⟨_, rfl⟩
                    subst hwd
                    have BYd := HBYb.out.trans (HB6.out.mono HBYb.out.size)
                    have TYd := five_below HTY.out BYd
                    have l7 := lt_of_block TYd
                    have f3 := (five_cells TYd).2.2.2.1
                    have szd : w.heap.size ≤ wd.heap.size := Nat.le_trans szb HB6.out.size
                    have hT5 := intsAt_below (ints_take (own_ints HY5.out) hi) BYd
                    have hD5 := intsAt_below HRb.out HB6.out
                    have HBXd : Hid (Below X2.heap.size X2 wd) := HBY.out.trans (BYd.mono HBY.out.size)
                    clear f0
                    go_wp2_with fail
                    refine regPut (s0 := 90) (ls := 5) (rs := 10) (P7 := P7) (fd := 3) (kk := i) (m := ss.length - i) (x := mh) (T := (hshG G.objs ss).take i) (D := (hshG G.objs ss).drop i) (lv := .slice (some ⟨g5, 0, none⟩) ss.length c5) (pv := .slice (some ⟨g5, 0, none⟩) i c5) (rv := .slice (some ⟨gb', 0, none⟩) (ss.length - i) cb) (a := some ⟨g5, 0, none⟩) (cap := c5) (gr := gb') (cr := cb) (by simp) ?_ rfl ⟨_, rfl, rfl, rfl, by simp [Region.binds]⟩ ⟨_, rfl, rfl, rfl, by simp [Region.binds]⟩ ⟨_, rfl, rfl, rfl, by simp [Region.binds]⟩ ⟨_, rfl, rfl, rfl, by simp [Region.binds]⟩ ⟨_, rfl, rfl, rfl, by simp [Region.binds]⟩ ⟨_, rfl, rfl, rfl, by simp [Region.binds]⟩ ⟨_, rfl, rfl, rfl, by simp [Region.binds]⟩ ⟨_, rfl, rfl, rfl, by simp [Region.binds]⟩ ⟨_, rfl, rfl, rfl, by simp [Region.binds]⟩ ⟨_, rfl, rfl, rfl, by simp [Region.binds]⟩ ⟨_, rfl, rfl, rfl, by simp [Region.binds]⟩ ⟨_, rfl, rfl, rfl, by simp [Region.binds]⟩ (by decide) (by decide) (by decide) (by decide) (by decide) (by decide) (by simp) rfl rfl rfl rfl (rs_cut (by omega) (by omega) (by omega)) (rs_f3 P7) l7 f3 rfl hT5 rfl hD5 (by omega) (by omega) ?_
                    · intro k' o' ho' e' he'
                      have hk' : k' < 12 := (Array.getElem?_eq_some_iff.1 ho').1
                      rcases (show k' = 0 ∨ k' = 1 ∨ k' = 2 ∨ k' = 3 ∨ k' = 4 ∨ k' = 5 ∨ k' = 6 ∨ k' = 7 ∨ k' = 8 ∨ k' = 9 ∨ k' = 10 ∨ k' = 11 by omega) with rfl | rfl | rfl | rfl | rfl | rfl | rfl | rfl | rfl | rfl | rfl | rfl
                      all_goals
                        injection ho' with ho'
                        subst ho'
                        simp at he'
                        try omega
                      all_goals
                        first
                          | (subst he'; decide)
                          | (rcases he' with rfl | rfl <;> decide)
                          | (rcases he' with rfl | rfl | rfl <;> decide)
                          | (rcases he' with rfl | rfl | rfl | rfl <;> decide)
                          | (rcases he' with rfl | rfl | rfl | rfl | rfl <;> decide)
                          | (rcases he' with rfl | rfl | rfl | rfl | rfl | rfl <;> decide)
                          | (rcases he' with rfl | rfl | rfl | rfl | rfl | rfl | rfl <;> decide)
                          | (rcases he' with rfl | rfl | rfl | rfl | rfl | rfl | rfl | rfl <;> decide)
                          | (rcases he' with rfl | rfl | rfl | rfl | rfl | rfl | rfl | rfl | rfl <;> decide)
                          | (rcases he' with rfl | rfl | rfl | rfl | rfl | rfl | rfl | rfl | rfl | rfl <;> decide)
                          | (rcases he' with rfl | rfl | rfl | rfl | rfl | rfl | rfl | rfl | rfl | rfl | rfl <;> decide)
                          | (rcases he' with rfl | rfl | rfl | rfl | rfl | rfl | rfl | rfl | rfl | rfl | rfl | rfl <;> decide)
                          | (rcases he' with rfl | rfl | rfl | rfl | rfl | rfl | rfl | rfl | rfl | rfl | rfl | rfl | rfl <;> decide)
                          | (rcases he' with rfl | rfl | rfl | rfl | rfl | rfl | rfl | rfl | rfl | rfl | rfl | rfl | rfl | rfl <;> decide)
                          | (rcases he' with rfl | rfl | rfl | rfl | rfl | rfl | rfl | rfl | rfl | rfl | rfl | rfl | rfl | rfl | rfl <;> decide)
                          | (rcases he' with rfl | rfl | rfl | rfl | rfl | rfl | rfl | rfl | rfl | rfl | rfl | rfl | rfl | rfl | rfl | rfl <;> decide)
                          | (rcases he' with rfl | rfl | rfl | rfl | rfl | rfl | rfl | rfl | rfl | rfl | rfl | rfl | rfl | rfl | rfl | rfl | rfl <;> decide)
                    rintro u w' v hu hrow hb
                    obtain ⟨gq, cq, hv⟩ : ∃ g c, v = .slice (some ⟨g, 0, none⟩) (ss.length + 1) c := by
                      obtain ⟨_, ⟨_, q0⟩ | ⟨g, c', cur, q1, _⟩⟩ := id hrow
                      · omega
                      · exact ⟨g, c', by rw [q1]; congr 1; omega⟩
                    subst hv
                    have ow := own_put (R := (hshG G.objs ss).take i ++ mh :: (hshG G.objs ss).drop i) rfl (by simp; omega) (row_base hrow szd)
                    have HB7 : Hid _ := hb
                    have HO7 : Hid _ := ow
                    clear ow hb hrow
                    simp [ovr, List.range, List.range.loop, hu]
                    have hins := insG_at (os := G.objs) (p := k) hi (fun j hj => by
                          have := hall j hj
                          rw [HHS.out]
                          have e : (hshG G.objs ss).getD j 0 = (G.objs.getD (ss.getD j 0) obD).hash := by
                            rw [List.getD_eq_getElem?_getD, List.getElem?_map, List.getElem?_eq_getElem (show j < ss.length by omega), List.getD_eq_getElem?_getD (l := ss), List.getElem?_eq_getElem (show j < ss.length by omega)]
                            rfl
                          rw [← e]
                          exact this) (fun hjl => by
                          rw [HHS.out]
                          have e : (hshG G.objs ss).getD i 0 = (G.objs.getD (ss.getD i 0) obD).hash := by
                            rw [List.getD_eq_getElem?_getD, List.getElem?_map, List.getElem?_eq_getElem hjl, List.getD_eq_getElem?_getD (l := ss), List.getElem?_eq_getElem hjl]
                            rfl
                          rw [← e]
                          exact (by rw [hhx]; exact HNLE.out))
                    have HST : Hid (∃ (k' g4' c4' g5' c5' : Nat), k' ≤ ms.length ∧ Value.int .i64 ((k : Int) + 1) = .int .i64 k' ∧ Value.slice (some ⟨g6, 0, none⟩) (ss.length + 1) c6 = .slice (some ⟨g4', 0, none⟩) (sortG G.objs f k').length c4' ∧ Value.slice (some ⟨gq, 0, none⟩) (ss.length + 1) cq = .slice (some ⟨g5', 0, none⟩) (sortG G.objs f k').length c5' ∧ Own w' w.heap.size (.slice (some ⟨g4', 0, none⟩) (sortG G.objs f k').length c4') (idsG G.objs (sortG G.objs f k')) ∧ Own w' w.heap.size (.slice (some ⟨g5', 0, none⟩) (sortG G.objs f k').length c5') (hshG G.objs (sortG G.objs f k')) ∧ Below X2.heap.size X2 w') := by
                      have e1 : idsG G.objs (sortG G.objs f (k + 1)) = (idsG G.objs ss).take i ++ mi :: (idsG G.objs ss).drop i := by rw [HX.out, hins, ← HID.out]; simp [idsG]
                      have e2 : hshG G.objs (sortG G.objs f (k + 1)) = (hshG G.objs ss).take i ++ mh :: (hshG G.objs ss).drop i := by rw [HX.out, hins, ← HHS.out]; simp [hshG]
                      have e3 : (sortG G.objs f (k + 1)).length = ss.length + 1 := by rw [HX.out, len_insG]
                      exact ⟨k + 1, g6, c6, gq, cq, by omega, by simp, by rw [e3], by rw [e3], by rw [e3, e1]; exact own_below HO6.out HB7.out, by rw [e3, e2]; exact HO7.out, HBXd.out.trans (HB7.out.mono HBXd.out.size)⟩
                    clear hins
                    go_wp2
                    exact ⟨HST.out, by simp [intOf]; omega⟩
                  · have hdl : decide ((i : Int) < (ss.length : Int)) = false := by rw [decide_eq_false_iff_not]; omega
                    have hnl : ¬ (i : Int) < (ss.length : Int) := by omega
                    go_wp2_with fail
                    go_quiet (fail)
                    have HP4 : Hid (∀ n o c, (o = i ∧ c = c4 - i ∨ i = ss.length ∧ c4 = i ∧ o = 0 ∧ c = 0) → IntsAt (Y.drewN n) (.slice (some ⟨g4, o, none⟩) (ss.length - i) c) ((idsG G.objs ss).drop i)) := by
                      intro n o c h
                      rcases h with ⟨rfl, rfl⟩ | ⟨h1, h2, rfl, rfl⟩
                      · exact ints_drop (w := Y) (b := g4) (off := 0) (n := ss.length) (cap := c4) (own_ints HY4.out) hi (fun h => by rw [Nat.zero_add]) (fun h => by cases h)
                      · have := ints_drop (w := Y) (b := g4) (off := 0) (n := ss.length) (cap := c4) (k := i) (own_ints HY4.out) hi (a := some ⟨g4, 0, none⟩) (fun h => by omega) (fun h => by cases h)
                        rw [show c4 - i = 0 by omega] at this
                        exact this
                    have HP5 : Hid (∀ W o c, Below Y.heap.size Y W → (o = i ∧ c = c5 - i ∨ i = ss.length ∧ c5 = i ∧ o = 0 ∧ c = 0) → IntsAt W (.slice (some ⟨g5, o, none⟩) (ss.length - i) c) ((hshG G.objs ss).drop i)) := by
                      intro W o c hW h
                      refine intsAt_below ?_ hW
                      rcases h with ⟨rfl, rfl⟩ | ⟨h1, h2, rfl, rfl⟩
                      · exact ints_drop (w := Y) (b := g5) (off := 0) (n := ss.length) (cap := c5) (own_ints HY5.out) hi (fun h => by rw [Nat.zero_add]) (fun h => by cases h)
                      · have := ints_drop (w := Y) (b := g5) (off := 0) (n := ss.length) (cap := c5) (k := i) (own_ints HY5.out) hi (a := some ⟨g5, 0, none⟩) (fun h => by omega) (fun h => by cases h)
                        rw [show c5 - i = 0 by omega] at this
                        exact this
                    have HQ4 : Hid (∀ n, IntsAt (Y.drewN n) (.slice (if c4 = i then (some ⟨g4, 0, none⟩ : Option Addr) else some ⟨g4, i, none⟩) (ss.length - i) (c4 - i)) ((idsG G.objs ss).drop i)) := fun n => ints_drop (w := Y) (b := g4) (off := 0) (n := ss.length) (cap := c4) (own_ints HY4.out) hi (fun h => by rw [if_neg (by omega), Nat.zero_add]) (fun h => by split at h <;> cases h)
                    have HQ5 : Hid (∀ W, Below Y.heap.size Y W → IntsAt W (.slice (if c5 = i then (some ⟨g5, 0, none⟩ : Option Addr) else some ⟨g5, i, none⟩) (ss.length - i) (c5 - i)) ((hshG G.objs ss).drop i)) := fun W hW => intsAt_below (ints_drop (w := Y) (b := g5) (off := 0) (n := ss.length) (cap := c5) (own_ints HY5.out) hi (fun h => by rw [if_neg (by omega), Nat.zero_add]) (fun h => by split at h <;> cases h)) hW
                    go_wp2_with (first
                      | (refine wpList_copiedN (n := ss.length - i) (xs := (idsG G.objs ss).drop i) ?_ (by omega) rfl (.tmp 69) (.tmp 72) rfl rfl rfl ?_; (first | exact HQ4.out _ | exact HP4.out _ _ _ (Or.inl ⟨rfl, rfl⟩) | exact HP4.out _ _ _ (Or.inr ⟨by omega, by omega, rfl, rfl⟩)); intro ga ca wa hga hOa hBa; (try generalize (if c4 = i then (some ⟨g4, 0, none⟩ : Option Addr) else some ⟨g4, i, none⟩) = z4); have BYa : Below Y.heap.size Y wa := ⟨hBa.os, hBa.tape, hBa.output, hBa.size, hBa.block⟩; have HBYa : Hid _ := BYa; have HRa : Hid (IntsAt wa (.slice (some ⟨ga, 0, none⟩) (ss.length - i) ca) ((idsG G.objs ss).drop i)) := own_ints (own_row hOa (by simp)); clear hOa hBa hga BYa)
                      | (refine wpList_copiedN (n := ss.length - i) (xs := (hshG G.objs ss).drop i) ?_ (by omega) rfl (.tmp 74) (.tmp 77) rfl rfl rfl ?_; (first | exact HQ5.out _ HBYa.out | exact HP5.out _ _ _ HBYa.out (Or.inl ⟨rfl, rfl⟩) | exact HP5.out _ _ _ HBYa.out (Or.inr ⟨by omega, by omega, rfl, rfl⟩)); intro gb' cb wb hgb hOb hBb; (try generalize (if c5 = i then (some ⟨g5, 0, none⟩ : Option Addr) else some ⟨g5, i, none⟩) = z5); have HBYb : Hid (Below Y.heap.size Y wb) := HBYa.out.trans (hBb.mono HBYa.out.size); have HRa2 : Hid _ := intsAt_below HRa.out hBb; have HRb : Hid (IntsAt wb (.slice (some ⟨gb', 0, none⟩) (ss.length - i) cb) ((hshG G.objs ss).drop i)) := own_ints (own_row hOb (by simp)); clear hOb hBb hgb))
                    clear HQ4 HQ5 HP4 HP5
                    have TYb := five_below HTY.out HBYb.out
                    have l7 := lt_of_block TYb
                    have f0 := (five_cells TYb).1
                    have szb : w.heap.size ≤ wb.heap.size := Nat.le_trans HB2.out.size (Nat.le_trans HBY.out.size HBYb.out.size)
                    have hT4 := intsAt_below (ints_take (own_ints HY4.out) hi) HBYb.out
                    go_cut [4] from 15 to 100 (fun v wx => ∃ g c : Nat, v = .slice (some ⟨g, 0, none⟩) (ss.length + 1) c ∧ Hid (Own wx w.heap.size (.slice (some ⟨g, 0, none⟩) (ss.length + 1) c) ((idsG G.objs ss).take i ++ mi :: (idsG G.objs ss).drop i)) ∧ Hid (Below wb.heap.size wb wx))
                    case first =>
                      refine regPut (s0 := 79) (ls := 4) (rs := 9) (P7 := P7) (fd := 0) (kk := i) (m := ss.length - i) (x := mi) (T := (idsG G.objs ss).take i) (D := (idsG G.objs ss).drop i) (lv := .slice (some ⟨g4, 0, none⟩) ss.length c4) (pv := .slice (some ⟨g4, 0, none⟩) i c4) (rv := .slice (some ⟨ga, 0, none⟩) (ss.length - i) ca) (a := some ⟨g4, 0, none⟩) (cap := c4) (gr := ga) (cr := ca) (by simp) ?_ rfl ⟨_, rfl, rfl, rfl, by simp [Region.binds]⟩ ⟨_, rfl, rfl, rfl, by simp [Region.binds]⟩ ⟨_, rfl, rfl, rfl, by simp [Region.binds]⟩ ⟨_, rfl, rfl, rfl, by simp [Region.binds]⟩ ⟨_, rfl, rfl, rfl, by simp [Region.binds]⟩ ⟨_, rfl, rfl, rfl, by simp [Region.binds]⟩ ⟨_, rfl, rfl, rfl, by simp [Region.binds]⟩ ⟨_, rfl, rfl, rfl, by simp [Region.binds]⟩ ⟨_, rfl, rfl, rfl, by simp [Region.binds]⟩ ⟨_, rfl, rfl, rfl, by simp [Region.binds]⟩ ⟨_, rfl, rfl, rfl, by simp [Region.binds]⟩ ⟨_, rfl, rfl, rfl, by simp [Region.binds]⟩ (by decide) (by decide) (by decide) (by decide) (by decide) (by decide) (by simp) rfl rfl rfl rfl (rs_cut (by omega) (by omega) (by omega)) (rs_f0 P7) l7 f0 rfl hT4 rfl HRa2.out (by omega) (by omega) ?_
                      · intro k' o' ho' e' he'
                        have hk' : k' < 12 := (Array.getElem?_eq_some_iff.1 ho').1
                        rcases (show k' = 0 ∨ k' = 1 ∨ k' = 2 ∨ k' = 3 ∨ k' = 4 ∨ k' = 5 ∨ k' = 6 ∨ k' = 7 ∨ k' = 8 ∨ k' = 9 ∨ k' = 10 ∨ k' = 11 by omega) with rfl | rfl | rfl | rfl | rfl | rfl | rfl | rfl | rfl | rfl | rfl | rfl
                        all_goals
                          injection ho' with ho'
                          subst ho'
                          simp at he'
                          try omega
                        all_goals
                          first
                            | (subst he'; decide)
                            | (rcases he' with rfl | rfl <;> decide)
                            | (rcases he' with rfl | rfl | rfl <;> decide)
                            | (rcases he' with rfl | rfl | rfl | rfl <;> decide)
                            | (rcases he' with rfl | rfl | rfl | rfl | rfl <;> decide)
                            | (rcases he' with rfl | rfl | rfl | rfl | rfl | rfl <;> decide)
                            | (rcases he' with rfl | rfl | rfl | rfl | rfl | rfl | rfl <;> decide)
                            | (rcases he' with rfl | rfl | rfl | rfl | rfl | rfl | rfl | rfl <;> decide)
                            | (rcases he' with rfl | rfl | rfl | rfl | rfl | rfl | rfl | rfl | rfl <;> decide)
                            | (rcases he' with rfl | rfl | rfl | rfl | rfl | rfl | rfl | rfl | rfl | rfl <;> decide)
                            | (rcases he' with rfl | rfl | rfl | rfl | rfl | rfl | rfl | rfl | rfl | rfl | rfl <;> decide)
                            | (rcases he' with rfl | rfl | rfl | rfl | rfl | rfl | rfl | rfl | rfl | rfl | rfl | rfl <;> decide)
                            | (rcases he' with rfl | rfl | rfl | rfl | rfl | rfl | rfl | rfl | rfl | rfl | rfl | rfl | rfl <;> decide)
                            | (rcases he' with rfl | rfl | rfl | rfl | rfl | rfl | rfl | rfl | rfl | rfl | rfl | rfl | rfl | rfl <;> decide)
                            | (rcases he' with rfl | rfl | rfl | rfl | rfl | rfl | rfl | rfl | rfl | rfl | rfl | rfl | rfl | rfl | rfl <;> decide)
                            | (rcases he' with rfl | rfl | rfl | rfl | rfl | rfl | rfl | rfl | rfl | rfl | rfl | rfl | rfl | rfl | rfl | rfl <;> decide)
                            | (rcases he' with rfl | rfl | rfl | rfl | rfl | rfl | rfl | rfl | rfl | rfl | rfl | rfl | rfl | rfl | rfl | rfl | rfl <;> decide)
                      · rintro u w' v hu hrow hb
                        obtain ⟨gq, cq, hv⟩ : ∃ g c, v = .slice (some ⟨g, 0, none⟩) (ss.length + 1) c := by
                          obtain ⟨_, ⟨_, q0⟩ | ⟨g, c', cur, q1, _⟩⟩ := id hrow
                          · omega
                          · exact ⟨g, c', by rw [q1]; congr 1; omega⟩
                        subst hv
                        have ow := own_put (R := (idsG G.objs ss).take i ++ mi :: (idsG G.objs ss).drop i) rfl (by simp; omega) (row_base hrow szb)
                        rename_i J K' HJ HK
                        exact HK _ _ (Met.intro (HJ _ _ ⟨u 4, _, _, _, _, _, _, _, _, _, _, _, _, _, _, _, _, _, _, _, _, _, _, _, _, _, _, _, _, _, _, _, _, _, _, _, _, _, _, _, _, _, _, _, _, _, _, _, _, _, _, _, _, _, _, _, _, _, _, _, _, _, _, _, _, _, _, _, _, _, _, _, _, _, _, _, _, _, _, _, _, _, _, _, _, _, _, ⟨gq, cq, hu, ow, hb⟩, rfl⟩))
                    obtain ⟨g6, c6, rfl, HO6, HB6⟩ := hcut
                    obtain ⟨wd, hwd⟩ : ∃ wd, wd = wc := ⟨_, rfl⟩
                    subst hwd
                    have BYd := HBYb.out.trans (HB6.out.mono HBYb.out.size)
                    have TYd := five_below HTY.out BYd
                    have l7 := lt_of_block TYd
                    have f3 := (five_cells TYd).2.2.2.1
                    have szd : w.heap.size ≤ wd.heap.size := Nat.le_trans szb HB6.out.size
                    have hT5 := intsAt_below (ints_take (own_ints HY5.out) hi) BYd
                    have hD5 := intsAt_below HRb.out HB6.out
                    have HBXd : Hid (Below X2.heap.size X2 wd) := HBY.out.trans (BYd.mono HBY.out.size)
                    clear f0
                    go_wp2_with fail
                    refine regPut (s0 := 90) (ls := 5) (rs := 10) (P7 := P7) (fd := 3) (kk := i) (m := ss.length - i) (x := mh) (T := (hshG G.objs ss).take i) (D := (hshG G.objs ss).drop i) (lv := .slice (some ⟨g5, 0, none⟩) ss.length c5) (pv := .slice (some ⟨g5, 0, none⟩) i c5) (rv := .slice (some ⟨gb', 0, none⟩) (ss.length - i) cb) (a := some ⟨g5, 0, none⟩) (cap := c5) (gr := gb') (cr := cb) (by simp) ?_ rfl ⟨_, rfl, rfl, rfl, by simp [Region.binds]⟩ ⟨_, rfl, rfl, rfl, by simp [Region.binds]⟩ ⟨_, rfl, rfl, rfl, by simp [Region.binds]⟩ ⟨_, rfl, rfl, rfl, by simp [Region.binds]⟩ ⟨_, rfl, rfl, rfl, by simp [Region.binds]⟩ ⟨_, rfl, rfl, rfl, by simp [Region.binds]⟩ ⟨_, rfl, rfl, rfl, by simp [Region.binds]⟩ ⟨_, rfl, rfl, rfl, by simp [Region.binds]⟩ ⟨_, rfl, rfl, rfl, by simp [Region.binds]⟩ ⟨_, rfl, rfl, rfl, by simp [Region.binds]⟩ ⟨_, rfl, rfl, rfl, by simp [Region.binds]⟩ ⟨_, rfl, rfl, rfl, by simp [Region.binds]⟩ (by decide) (by decide) (by decide) (by decide) (by decide) (by decide) (by simp) rfl rfl rfl rfl (rs_cut (by omega) (by omega) (by omega)) (rs_f3 P7) l7 f3 rfl hT5 rfl hD5 (by omega) (by omega) ?_
                    · intro k' o' ho' e' he'
                      have hk' : k' < 12 := (Array.getElem?_eq_some_iff.1 ho').1
                      rcases (show k' = 0 ∨ k' = 1 ∨ k' = 2 ∨ k' = 3 ∨ k' = 4 ∨ k' = 5 ∨ k' = 6 ∨ k' = 7 ∨ k' = 8 ∨ k' = 9 ∨ k' = 10 ∨ k' = 11 by omega) with rfl | rfl | rfl | rfl | rfl | rfl | rfl | rfl | rfl | rfl | rfl | rfl
                      all_goals
                        injection ho' with ho'
                        subst ho'
                        simp at he'
                        try omega
                      all_goals
                        first
                          | (subst he'; decide)
                          | (rcases he' with rfl | rfl <;> decide)
                          | (rcases he' with rfl | rfl | rfl <;> decide)
                          | (rcases he' with rfl | rfl | rfl | rfl <;> decide)
                          | (rcases he' with rfl | rfl | rfl | rfl | rfl <;> decide)
                          | (rcases he' with rfl | rfl | rfl | rfl | rfl | rfl <;> decide)
                          | (rcases he' with rfl | rfl | rfl | rfl | rfl | rfl | rfl <;> decide)
                          | (rcases he' with rfl | rfl | rfl | rfl | rfl | rfl | rfl | rfl <;> decide)
                          | (rcases he' with rfl | rfl | rfl | rfl | rfl | rfl | rfl | rfl | rfl <;> decide)
                          | (rcases he' with rfl | rfl | rfl | rfl | rfl | rfl | rfl | rfl | rfl | rfl <;> decide)
                          | (rcases he' with rfl | rfl | rfl | rfl | rfl | rfl | rfl | rfl | rfl | rfl | rfl <;> decide)
                          | (rcases he' with rfl | rfl | rfl | rfl | rfl | rfl | rfl | rfl | rfl | rfl | rfl | rfl <;> decide)
                          | (rcases he' with rfl | rfl | rfl | rfl | rfl | rfl | rfl | rfl | rfl | rfl | rfl | rfl | rfl <;> decide)
                          | (rcases he' with rfl | rfl | rfl | rfl | rfl | rfl | rfl | rfl | rfl | rfl | rfl | rfl | rfl | rfl <;> decide)
                          | (rcases he' with rfl | rfl | rfl | rfl | rfl | rfl | rfl | rfl | rfl | rfl | rfl | rfl | rfl | rfl | rfl <;> decide)
                          | (rcases he' with rfl | rfl | rfl | rfl | rfl | rfl | rfl | rfl | rfl | rfl | rfl | rfl | rfl | rfl | rfl | rfl <;> decide)
                          | (rcases he' with rfl | rfl | rfl | rfl | rfl | rfl | rfl | rfl | rfl | rfl | rfl | rfl | rfl | rfl | rfl | rfl | rfl <;> decide)
                    rintro u w' v hu hrow hb
                    obtain ⟨gq, cq, hv⟩ : ∃ g c, v = .slice (some ⟨g, 0, none⟩) (ss.length + 1) c := by
                      obtain ⟨_, ⟨_, q0⟩ | ⟨g, c', cur, q1, _⟩⟩ := id hrow
                      · omega
                      · exact ⟨g, c', by rw [q1]; congr 1; omega⟩
                    subst hv
                    have ow := own_put (R := (hshG G.objs ss).take i ++ mh :: (hshG G.objs ss).drop i) rfl (by simp; omega) (row_base hrow szd)
                    have HB7 : Hid _ := hb
                    have HO7 : Hid _ := ow
                    clear ow hb hrow
                    simp [ovr, List.range, List.range.loop, hu]
                    have hins := insG_at (os := G.objs) (p := k) hi (fun j hj => by
                          have := hall j hj
                          rw [HHS.out]
                          have e : (hshG G.objs ss).getD j 0 = (G.objs.getD (ss.getD j 0) obD).hash := by
                            rw [List.getD_eq_getElem?_getD, List.getElem?_map, List.getElem?_eq_getElem (show j < ss.length by omega), List.getD_eq_getElem?_getD (l := ss), List.getElem?_eq_getElem (show j < ss.length by omega)]
                            rfl
                          rw [← e]
                          exact this) (fun h => absurd h (by omega))
                    have HST : Hid (∃ (k' g4' c4' g5' c5' : Nat), k' ≤ ms.length ∧ Value.int .i64 ((k : Int) + 1) = .int .i64 k' ∧ Value.slice (some ⟨g6, 0, none⟩) (ss.length + 1) c6 = .slice (some ⟨g4', 0, none⟩) (sortG G.objs f k').length c4' ∧ Value.slice (some ⟨gq, 0, none⟩) (ss.length + 1) cq = .slice (some ⟨g5', 0, none⟩) (sortG G.objs f k').length c5' ∧ Own w' w.heap.size (.slice (some ⟨g4', 0, none⟩) (sortG G.objs f k').length c4') (idsG G.objs (sortG G.objs f k')) ∧ Own w' w.heap.size (.slice (some ⟨g5', 0, none⟩) (sortG G.objs f k').length c5') (hshG G.objs (sortG G.objs f k')) ∧ Below X2.heap.size X2 w') := by
                      have e1 : idsG G.objs (sortG G.objs f (k + 1)) = (idsG G.objs ss).take i ++ mi :: (idsG G.objs ss).drop i := by rw [HX.out, hins, ← HID.out]; simp [idsG]
                      have e2 : hshG G.objs (sortG G.objs f (k + 1)) = (hshG G.objs ss).take i ++ mh :: (hshG G.objs ss).drop i := by rw [HX.out, hins, ← HHS.out]; simp [hshG]
                      have e3 : (sortG G.objs f (k + 1)).length = ss.length + 1 := by rw [HX.out, len_insG]
                      exact ⟨k + 1, g6, c6, gq, cq, by omega, by simp, by rw [e3], by rw [e3], by rw [e3, e1]; exact own_below HO6.out HB7.out, by rw [e3, e2]; exact HO7.out, HBXd.out.trans (HB7.out.mono HBXd.out.size)⟩
                    clear hins
                    go_wp2
                    exact ⟨HST.out, by simp [intOf]; omega⟩
          · have hk2' : (k0 != 2) = true := by simpa using hk2
            have hfk : f k = false := by
              cases e : f k
              · rfl
              · obtain ⟨_, _, q', h1, h2⟩ := HFK.out.1 e
                rw [HKN.out hk2] at h1
                cases h1
            have HX : Hid _ := HSKIP.out hfk
            clear HSKIP HNO HYES HKX HKN HIN hfk he0 hk2
            go_wp2_with (go_at_call 62; refine HS1.mono ?_; clear HS1; rintro e w4 ⟨rfl, hw4⟩; rw [hw4]; clear hw4)
            exact ⟨HX.out, by simp [intOf]; omega⟩
        · have HS1 := l1Has_any HRY.out (by omega) mi
          rw [decide_eq_false hi1] at HS1
          have hfk : f k = false := by
            cases e : f k
            · rfl
            · exact absurd (HIN.out.2 (HFK.out.1 e).1) hi1
          have HX : Hid _ := HSKIP.out hfk
          clear HSKIP HNO HYES HKX HKN HIN hfk
          go_wp2_with (go_at_call 62; refine HS1.mono ?_; clear HS1; rintro e w4 ⟨rfl, hw4⟩; rw [hw4]; clear hw4)
          exact ⟨HX.out, by simp [intOf]; omega⟩
      · have hf2' : (mf != 2) = true := by simpa using hf2
        have hfk : f k = false := by
          cases e : f k
          · rfl
          · have := (HFK.out.1 e).2.1
            rw [HFM.out] at this
            exact absurd this hf2
        have HX : Hid _ := HSKIP.out hfk
        clear HSKIP HNO HYES HKX HKN HIN hfk hf2
        go_wp2
        exact ⟨HX.out, by simp [intOf]; omega⟩
    · have e : k = ms.length := by omega
      subst e
      have hfin : Own wr w.heap.size (.slice (some ⟨g4, 0, none⟩) (sortG G.objs f ms.length).length c4) (idsG G.objs ps) := by
        have := HO4.out
        rw [HPS.out, ← HLEN.out]
        exact this
      have HFO : Hid _ := hfin
      have HFB : Hid (Below w.heap.size w wr) := HB2.out.trans (hB.mono HB2.out.size)
      clear hO4 hO5 hB hfin
      generalize (sortG G.objs f ms.length).length = nn at *
      go_wp2
      go_ret
      exact ⟨_, rfl, HFO.out, HFB.out⟩
end Go.Proofs.Ytfajnnibkcnkaal.gr
namespace Go.Proofs.Ytfajnnibkcnkaal.gr
open Go.RowKit rows heads
set_option maxRecDepth 100000
set_option linter.unusedVariables false

theorem ownI_cell {w : World} {base : Nat} {a : Option Addr} {n c : Nat} {xs : List Int} (h : Own w base (.slice a n c) xs) {i : Nat} (hi : i < xs.length) : ∃ g, a = some ⟨g, 0, none⟩ ∧ w.cell? ⟨g, i, none⟩ = some (.int .i64 (xs.getD i 0)) ∧ g < w.heap.size := by
  have h' := h
  obtain ⟨h0, ⟨h1, h2⟩ | ⟨g, cap, cur, h1, hg, hh, _⟩⟩ := h
  · omega
  · injection h1 with e1 e2 e3
    subst e1 e2 e3
    have := World.ownsRow.cellAt h' i (by omega)
    refine ⟨g, rfl, ?_, lt_of_block hh⟩
    rw [this]
    simp [List.getD_eq_getElem?_getD, List.getElem?_eq_getElem hi]
theorem atI_own {G : Gr} (h : Right G) {p : Nat} (hp : p < G.objs.length) : atI G.objs (G.objs.getD p obD).id = p :=
  atI_at hp rfl fun m hm e => absurd (rise_inj (gOk_rise h.gOk) (show m < G.objs.length by omega) hp e) (by omega)

set_option maxHeartbeats 8000000 in
theorem l7Mourn_any {base P : Nat} {R : Gr} {w : World} {G : Gr} (H : Held w base P G) (hr : Right G) (hM : Mourns G R) :
    Calls Try.prog 42 #[.pointer (some ⟨P, 0, none⟩)] w fun e w' => e = .returned (.tuple #[]) ∧ Held w' base P R ∧ Below base w w' := by
  have hbase := held_base H
  have H0 : Hid (∃ Gk, Held w base P Gk ∧ Right Gk ∧ Mourns Gk R ∧ Below base w w) := ⟨G, H, hr, hM, (Below.refl _ w).mono hbase⟩
  clear H hr hM
  go_enter Try.func42, Try.ntmps42
  go_wp2_with fail
  go_loopw [2] (fun v wr => ∃ v0, v0 = v ∧ ∃ Gk, Held wr base P Gk ∧ Right Gk ∧ Mourns Gk R ∧ Below base w wr) (fun _ wr => ephW wr P)
  case atStart => exact ⟨_, rfl, H0.out⟩
  case round =>
    obtain ⟨v0, hv0, Gk, hH, hR, hMk, hBk⟩ := hrel
    clear hv0
    obtain ⟨wr0, hwr0⟩ : ∃ x, x = wr := ⟨_, rfl⟩
    have HH : Hid _ := hH
    have hszr := held_base hH
    obtain ⟨o, r, m, ms, T, O, N, hb'⟩ := hH
    obtain ⟨a1, n1, c1, a2, n2, c2, a3, n3, c3, e1, e2, e3⟩ := graphAt_slices (ownG_at O)
    subst e1 e2 e3
    obtain ⟨ps, his⟩ := isG_ex hR.gOk
    have GP := l7Grieving_any (ownG_at O) hR.gOk his
    obtain ⟨z0, z1, z2, z3, z4, _⟩ := five_cells T
    have HR : Hid _ := hR
    have HM : Hid _ := hMk
    have HB : Hid _ := hBk
    clear T O N hb' hR hMk hBk H0
    go_wp2_with fail
    refine GP.mono ?_
    rintro e w3 ⟨v3, rfl, o3, b3⟩
    obtain ⟨pa, pc, hv3⟩ := ownT_slice (t := 2) o3
    rw [List.length_map] at hv3
    subst hv3
    have HH3 : Hid (HeldA w3 base P Gk (blk (.slice pa ps.length pc))) := heldA_new HH.out b3 fun k hk => (blk_lt o3 k hk).1
    have HB3 : Hid (Below base w w3) := HB.out.trans (b3.mono hszr)
    have HO3 : Hid (OwnT 2 w3 wr0.heap.size (.slice pa ps.length pc) (idsG Gk.objs ps)) := by rw [hwr0]; exact o3
    clear hwr0
    have HIS : Hid _ := his
    have hps := isG_len HR.out.gOk his
    have HEP : Hid (ephW _ P = eph Gk.objs) := ephW_held HH.out
    clear GP z0 z1 z2 z3 z4 o3 b3 his HB HH
    by_cases hn : ps = []
    · subst hn
      have e : R = Gk := mourns_unique HM.out ⟨[], HIS.out, rfl⟩
      subst e
      have hl : ([] : List Nat).length = 0 := rfl
      clear HIS HM HO3
      go_wp2
      first
        | exact bodyPost_ret (results_none rfl _ _ _) rfl ⟨rfl, HH3.out.held, HB3.out⟩
        | (go_ret; exact ⟨rfl, HH3.out.held, HB3.out⟩)
    · have HM2 : Hid _ := mourns_next HM.out HIS.out hn
      have hpos : ¬ (ps.length : Int) = 0 := by
        have := List.length_pos_iff.2 hn
        omega
      clear HM
      go_wp2_with fail
      have HPM : Hid (∀ p ∈ ps, p < Gk.objs.length) := fun p hp => grv_lt ((HIS.out.2 p).1 hp)
      go_loopw [3] (fun p wz => ∃ k : Nat, k ≤ ps.length ∧ p = .int .i64 k ∧ HeldA wz base P (mournR Gk (ps.take k)) (blk (.slice pa ps.length pc)) ∧ OwnT 2 wz wr0.heap.size (.slice pa ps.length pc) (idsG Gk.objs ps) ∧ Below base w wz) (fun p _ => ps.length - (intOf p).toNat)
      case atStart => exact ⟨0, Nat.zero_le _, rfl, HH3.out, HO3.out, HB3.out⟩
      case round =>
        obtain ⟨k, hk, rfl, hA, hO, hBz⟩ := hrel
        by_cases hkl : k < ps.length
        · obtain ⟨g, rfl, zc, lg⟩ := ownI_cell hO (i := k) (by rw [List.length_map]; exact hkl)
          have hpin := HPM.out (ps.getD k 0) (by rw [List.getD_eq_getElem?_getD, List.getElem?_eq_getElem hkl]; exact List.getElem_mem hkl)
          have hid0 : (idsG Gk.objs ps).getD k 0 = ((mournR Gk (ps.take k)).objs.getD (ps.getD k 0) obD).id := by
            rw [id_of_map (mournR_ids (ps.take k) Gk), List.getD_eq_getElem?_getD, List.getElem?_map, List.getElem?_eq_getElem hkl, List.getD_eq_getElem?_getD (l := ps), List.getElem?_eq_getElem hkl]
            rfl
          rw [hid0] at zc
          have HSN : Hid _ := mournR_snoc Gk hkl
          have hl0 := mournR_len (ps.take k) Gk
          have hr0 : Right (mournR Gk (ps.take k)) := right_mournR HR.out fun q hq => HPM.out q (List.mem_of_mem_take hq)
          generalize mournR Gk (ps.take k) = Gq at *
          generalize ps.getD k 0 = pp at *
          rw [← hl0] at hpin
          have hat := atI_own hr0 hpin
          have h200 := (gOk_len hr0.gOk).1
          obtain ⟨q0, c0, r1, r2, r3, m1, m2, m3, ms', sa, sc, T, O, N, hb, HS, him, _, _, _⟩ := heldA_obj hA hpin
          obtain ⟨z0, z1, z2, z3, z4, _⟩ := five_cells T
          have hml := own_len O
          have L6 := l6At_any (w := wr.drew) (show GraphAt wr.drew _ _ _ _ _ from ownG_at O) (show ms'.length ≤ 1048576 by omega) (Gq.objs.getD pp obD).id
          rw [hat] at L6
          generalize hid1 : (Gq.objs.getD pp obD).id = id0 at *
          have HID : Hid _ := hid1
          clear hid1
          have HALL : Hid (∀ w4, w4 = wr.drew.alloc (gb (.slice (some ⟨q0, 0, none⟩) Gq.objs.length c0) (.slice r1 r2 r3) (.slice m1 m2 m3) Gq.next Gq.seed) →
              (w4.cell? ⟨P, 0, none⟩ = some (.slice (some ⟨q0, 0, none⟩) Gq.objs.length c0) ∧ (∃ u, w4.cell? ⟨q0, pp * 5 + 2, none⟩ = some (.int .i64 u)) ∧ w4.frozen? ⟨q0, pp * 5 + 2, none⟩ = false) ∧
              (HeldA (w4.setCell ⟨q0, pp * 5 + 2, none⟩ (.int .i64 0)) base P { Gq with objs := plainAt Gq.objs pp } (blk (.slice (some ⟨g, 0, none⟩) ps.length pc)) ∧ OwnT 2 (w4.setCell ⟨q0, pp * 5 + 2, none⟩ (.int .i64 0)) wr0.heap.size (.slice (some ⟨g, 0, none⟩) ps.length pc) (idsG Gk.objs ps) ∧ Below base w (w4.setCell ⟨q0, pp * 5 + 2, none⟩ (.int .i64 0)) ∧ (w4.setCell ⟨q0, pp * 5 + 2, none⟩ (.int .i64 0)).cell? ⟨g, k, none⟩ = some (.int .i64 id0))) := by
            rintro w4 hw4
            have b4 : Below wr.heap.size wr w4 := by rw [hw4]; exact (Below.refl wr.heap.size wr).drew.alloc (show wr.heap.size ≤ wr.drew.heap.size from Nat.le_refl _) _
            have z0' := (b4.cell (p := ⟨P, 0, none⟩) (cell_lt z0)).trans z0
            have zc' := (b4.cell (p := ⟨g, k, none⟩) (cell_lt zc)).trans zc
            have hA4 := heldA_ch hA b4
            have hO4 : OwnT 2 w4 wr0.heap.size (.slice (some ⟨g, 0, none⟩) ps.length pc) (idsG Gk.objs ps) := row_below hO b4
            obtain ⟨zu, fz, nP, nS, HA1, B1⟩ := heldA_plainQ hA4 hpin z0'
            have C1 := one_ch w4 q0 (pp * 5 + 2) (.int .i64 0)
            refine ⟨⟨z0', zu, fz⟩, HA1, row_ch hO4 C1 (fun x hx e => nS ((List.mem_singleton.1 e) ▸ hx)), (hBz.trans (b4.mono (Nat.le_trans hbase hBz.size))).trans B1, ch_cellR C1 (fun e => nS ((List.mem_singleton.1 e) ▸ (by simp [blk_some]))) zc'⟩
          have hkl' : (k : Int) < (ps.length : Int) := by omega
          have hpp' : pp < Gq.objs.length := hpin
          clear hA hO hBz hl0 hr0 HO3 HB3 HH3 T O N HS him hb hml hat
          go_wp2_with fail
          go_region_law (go_simp; go_at_call 79; refine L6.mono ?_; clear L6; rintro e w4 ⟨rfl, hw4⟩; obtain ⟨⟨y0, ⟨u, y1⟩, y2⟩, yy⟩ := HALL.out w4 hw4; have HY : Hid _ := yy; clear yy hw4 HALL)
          all_goals
            generalize hW1 : w4.setCell ⟨q0, pp * 5 + 2, none⟩ (.int .i64 0) = W1 at *
            clear hW1 z0 z1 z2 z3 z4 zc y0 y1 y2
            obtain ⟨HA1, hO1, hB1, zc1⟩ := HY.out
            obtain ⟨q1, c1', r1', r2', r3', m1', m2', m3', ms2, sa2, sc2, T, O, N, hb, HS, _, _, _, _⟩ := heldA_obj HA1 (i := pp) (by rw [plain_len]; exact hpin)
            have em : m2' = Gq.mourned.length := by
              obtain ⟨_, ⟨h1, h2⟩ | ⟨g', cap', cur, h1, _⟩⟩ := O.2.2.2.1
              · injection h1 with _ h3 _
                have h2' : Gq.mourned.length = 0 := h2
                omega
              · injection h1
            obtain ⟨_, _, t2, _, _, _⟩ := five_cells T
            have HO1 : Hid _ := hO1
            have HB1 : Hid _ := hB1
            have HT : Hid _ := T
            have HO : Hid _ := O
            have HN : Hid _ := N
            have HHS : Hid _ := HS
            have HHA : Hid _ := HA1
            have HBB : Hid _ := hb
            subst em
            clear HY hO1 hB1 T O N HS HA1 hb
            by_cases h40 : Gq.mourned.length < 40
            · have h40' : (Gq.mourned.length : Int) < 40 := by omega
              go_wp2_with fail
              have BX1 : Below W1.heap.size W1 (W1.alloc (rb (2, id0))) := (Below.refl _ _).alloc (Nat.le_refl _) _
              have BX3 := BX1.drew
              have p2' := (BX1.cell (p := ⟨P, 2, none⟩) (cell_lt t2)).trans t2
              have zc1' := (BX1.cell (p := ⟨g, k, none⟩) (cell_lt zc1)).trans zc1
              have hb1 : base ≤ W1.heap.size := Nat.le_trans hbase HB1.out.size
              have HNW : Hid (∀ i u, (cellsR [((2, id0) : Rf)])[i]? = some u → (W1.alloc (rb (2, id0))).drew.cell? ((⟨W1.heap.size, 0, none⟩ : Addr).add i) = some u) := World.news_of_block (heap_alloc_new W1 (rb (2, id0)))
              have HON : Hid (∀ u ∈ cellsR [((2, id0) : Rf)], u.oneCell' = true) := cellsR_one _
              have T5 := five_below HT.out BX3
              have O5 := ownG_below (G := { Gq with objs := plainAt Gq.objs pp }) (o := .slice (some ⟨q1, 0, none⟩) (plainAt Gq.objs pp).length c1') (r := .slice r1' r2' r3') (m := .slice m1' Gq.mourned.length m3') (ms := ms2) (base := base) HO.out BX3
              have HROW : Hid (_) := O5.2.2.2.1
              have HAPP : Hid (∀ (v' : Value) (w10 : World), w10.ownsRow base 80 2 v' (Gq.mourned.length + 1) (cellsR Gq.mourned ++ cellsR [((2, id0) : Rf)]) → (W1.alloc (rb (2, id0))).drew.grownBy w10 (Value.slice m1' Gq.mourned.length m3').ownBlock → (v'.ownBlock = (Value.slice m1' Gq.mourned.length m3').ownBlock ∨ v'.ownBlock = some (W1.alloc (rb (2, id0))).drew.heap.size) → w10.cell? ⟨P, 2, none⟩ = some (.slice m1' Gq.mourned.length m3') ∧ w10.frozen? ⟨P, 2, none⟩ = false ∧ HeldA (w10.setCell ⟨P, 2, none⟩ v') base P (mournR Gk (ps.take (k + 1))) (blk (.slice (some ⟨g, 0, none⟩) ps.length pc)) ∧ OwnT 2 (w10.setCell ⟨P, 2, none⟩ v') wr0.heap.size (.slice (some ⟨g, 0, none⟩) ps.length pc) (idsG Gk.objs ps) ∧ Below base w (w10.setCell ⟨P, 2, none⟩ v')) := fun v' w10 h1 h2 h3 => by
                obtain ⟨k1, k2, k3, _, k5⟩ := heldA_mourn (G := { Gq with objs := plainAt Gq.objs pp }) T5 O5 HN.out HBB.out HHS.out (fun x hx => Nat.lt_of_lt_of_le (blk_lt HO1.out x hx).2 BX3.size) (2, id0) h1 h2 h3
                refine ⟨k1, k2, ?_, row_ch (row_ch (row_below HO1.out BX3) (ch_grown h2) (fun x hx e => (HHS.out x hx).2 (by simp only [gblk, List.mem_append]; exact .inr e))) (one_ch w10 P 2 v') (fun x hx e => (HHS.out x hx).1 (List.mem_singleton.1 e)), HB1.out.trans ((BX3.mono hb1).trans k5)⟩
                rw [HSN.out]
                unfold mourn1
                rw [if_pos h40, HID.out]
                exact k3
              have hbX3 : base ≤ (W1.alloc (rb (2, id0))).drew.heap.size := Nat.le_trans hb1 BX3.size
              obtain ⟨i0, hi, hz0, hz1, hz2⟩ := info_parts infoR
              have HI : Hid _ := And.intro hi (And.intro hz0 (And.intro hz1 hz2))
              clear hi hz0 hz1 hz2 T5 O5 BX1 BX3
              go_region_law (refine step_append_own_at rfl (.tmp 41) (.tmp 47) 30 rfl base 80 i0 (.agg #[.int .i64 0, .int .i64 0]) 2 16 Try.underlying30 HI.out.1 HI.out.2.1 HI.out.2.2.1 HI.out.2.2.2 rfl (by decide) (.slice m1' Gq.mourned.length m3') Gq.mourned.length (cellsR Gq.mourned) rfl HROW.out ⟨W1.heap.size, 0, none⟩ 1 1 (cellsR [((2, id0) : Rf)]) rfl rfl HNW.out HON.out (by unfold maxLen; omega) (by omega) hbX3 ?_; intro v' w10 hrow hg hat; obtain ⟨gg, cc, rfl⟩ := rowR_form hrow (by omega); obtain ⟨pp0, pf, hh⟩ := HAPP.out _ w10 hrow hg hat; have HDF : Hid _ := hh; clear hrow hg hat hh)
              all_goals
                go_wp2
                first
                  | exact ⟨⟨k + 1, by omega, by simp, HDF.out.1, HDF.out.2.1, HDF.out.2.2⟩, by simp [intOf]; omega⟩
                  | exact ⟨⟨_, _, _, ⟨k + 1, by omega, by simp, HDF.out.1, HDF.out.2.1, HDF.out.2.2⟩, rfl, rfl, rfl⟩, by simp [intOf]; omega⟩
            · have h40' : ¬ (Gq.mourned.length : Int) < 40 := by omega
              have HNX : Hid (HeldA W1 base P (mournR Gk (ps.take (k + 1))) (blk (.slice (some ⟨g, 0, none⟩) ps.length pc))) := by
                show HeldA _ _ _ _ _
                rw [HSN.out]
                unfold mourn1
                rw [if_neg h40]
                exact HHA.out
              go_wp2
              exact ⟨⟨k + 1, by omega, by simp, HNX.out, HO1.out, HB1.out⟩, by simp [intOf]; omega⟩
        · have e : k = ps.length := by omega
          subst e
          rw [List.take_length] at hA
          have HX : Hid _ := hA.held
          have HBX : Hid _ := hBz
          have HRX : Hid _ := right_mournR HR.out HPM.out
          clear hA hBz hO
          go_wp2
          exact ⟨⟨_, rfl, _, HX.out, HRX.out, HM2.out, HBX.out⟩, by rw [ephW_held HX.out, HEP.out]; exact eph_round HIS.out hn⟩
end Go.Proofs.Ytfajnnibkcnkaal.gr
namespace Go.Proofs.Ytfajnnibkcnkaal.gr
open Go.RowKit rows heads
set_option maxRecDepth 100000

set_option maxHeartbeats 8000000 in
theorem sMourning_any {w : World} {o r m : Value} {ms : List MO} {G R : Gr} (h : GraphAt w o r m ms G) (hs : gSize ms G ≤ 1048576) (hR : gOk G = true → Mourns G R) (h0 : gOk G = false → R = gr0) :
    Calls Try.prog 19 #[gv o r m G.next G.seed] w fun e w' => ∃ o' r' m' rs, e = .returned (gv o' r' m' R.next R.seed) ∧ OwnG w' w.heap.size o' r' m' rs R ∧ Below w.heap.size w w' := by
  obtain ⟨a1, n1, c1, a2, n2, c2, a3, n3, c3, e1, e2, e3⟩ := graphAt_slices h
  subst e1 e2 e3
  generalize hn0 : w.heap.size = n0 at *
  have B0 : Below n0 w ((w.alloc (gb (.slice a1 n1 c1) (.slice a2 n2 c2) (.slice a3 n3 c3) G.next G.seed)).alloc (gb (.slice none 0 0) (.slice none 0 0) (.slice none 0 0) 0 0)) := (((Below.refl _ w).alloc (by first | omega | (simp; omega)) _).alloc (by first | omega | (simp; omega)) _)
  have TP : Five ((w.alloc (gb (.slice a1 n1 c1) (.slice a2 n2 c2) (.slice a3 n3 c3) G.next G.seed)).alloc (gb (.slice none 0 0) (.slice none 0 0) (.slice none 0 0) 0 0)) n0 32 (.slice a1 n1 c1) (.slice a2 n2 c2) (.slice a3 n3 c3) (.int .i64 G.next) (.int .i64 G.seed) := by
    rw [← hn0]
    exact heap_push (heap_alloc_new _ _)
  have TR : Five ((w.alloc (gb (.slice a1 n1 c1) (.slice a2 n2 c2) (.slice a3 n3 c3) G.next G.seed)).alloc (gb (.slice none 0 0) (.slice none 0 0) (.slice none 0 0) 0 0)) (n0 + 1) 32 (.slice none 0 0) (.slice none 0 0) (.slice none 0 0) (.int .i64 0) (.int .i64 0) := by
    rw [show n0 + 1 = (w.alloc (gb (.slice a1 n1 c1) (.slice a2 n2 c2) (.slice a3 n3 c3) G.next G.seed)).heap.size by simp; omega]
    exact heap_alloc_new _ _
  have hX : n0 + 2 ≤ ((w.alloc (gb (.slice a1 n1 c1) (.slice a2 n2 c2) (.slice a3 n3 c3) G.next G.seed)).alloc (gb (.slice none 0 0) (.slice none 0 0) (.slice none 0 0) 0 0)).heap.size := by simp; omega
  have HG : Hid (∀ {X : World}, Below n0 w X → GraphAt X (.slice a1 n1 c1) (.slice a2 n2 c2) (.slice a3 n3 c3) ms G) := fun {X} hb => graphAt_below h (by rw [hn0]; exact hb)
  have GO := sGraphOk_any (HG.out B0) hs
  have HC : Hid (gOk G = true → ∀ (base P : Nat) (W : World), Held W base P G → Calls Try.prog 42 #[.pointer (some ⟨P, 0, none⟩)] W fun e w' => e = .returned (.tuple #[]) ∧ Held w' base P R ∧ Below base W w') := fun ok base P W hH => l7Mourn_any hH (right_of ok) (hR ok)
  have HE : Hid _ := h0
  clear h hR h0
  go_enter Try.func19, Try.ntmps19
  go_wp2_with fail
  generalize ((w.alloc (gb (.slice a1 n1 c1) (.slice a2 n2 c2) (.slice a3 n3 c3) G.next G.seed)).alloc (gb (.slice none 0 0) (.slice none 0 0) (.slice none 0 0) 0 0)) = X at *
  refine GO.mono ?_
  rintro e w1 ⟨rfl, b1⟩
  have B1 := B0.trans (b1.mono (by omega))
  have TP1 := five_below TP b1
  have TR1 := five_below TR b1
  have s1 : n0 + 2 ≤ w1.heap.size := Nat.le_trans hX b1.size
  clear GO TP TR B0 b1 hX
  obtain ⟨v0, v1, v2, v3, v4, vf⟩ := five_cells TR1
  have g0 := vf 0
  have g1 := vf 1
  have g2 := vf 2
  have g3 := vf 3
  have g4 := vf 4
  cases ok : gOk G
  · have ERG := HE.out ok
    subst ERG
    clear HE
    have HTX : Hid _ := five_sets TR1 (.slice none 0 0) (.slice none 0 0) (.slice none 0 0) (.int .i64 0) (.int .i64 0)
    have HBX : Hid _ := five_belows B1 (show n0 ≤ n0 + 1 by omega) (.slice none 0 0) (.slice none 0 0) (.slice none 0 0) (.int .i64 0) (.int .i64 0)
    clear HC HG TP1 TR1 B1 vf
    go_wp2
    exact bodyPost_ret (res_gr rfl rfl HTX.out) rfl ⟨_, _, _, [], rfl, ownG_zero _ _, HBX.out⟩
  · clear HE
    have CG := l6Copy_any (HG.out B1) hs
    obtain ⟨z0, z1, z2, z3, z4, _⟩ := five_cells TP1
    have HC1 : Hid _ := HC.out ok
    have HTR1 : Hid _ := TR1
    have HB1 : Hid _ := B1
    clear HC HG TP1 TR1 B1 vf
    go_wp2_with fail
    refine CG.mono ?_
    rintro e w2 ⟨o', r', m', ns, rfl, OG, b2⟩
    obtain ⟨a1', n1', c1', a2', n2', c2', a3', n3', c3', e1, e2, e3⟩ := graphAt_slices (ownG_at OG)
    subst e1 e2 e3
    clear CG z0 z1 z2 z3 z4 v0 v1 v2 v3 v4 g0 g1 g2 g3 g4
    have s2 := b2.size
    have BA : Below w2.heap.size w2 (w2.alloc (gb (.slice a1' n1' c1') (.slice a2' n2' c2') (.slice a3' n3' c3') G.next G.seed)) := (Below.refl _ w2).alloc (Nat.le_refl _) _
    have HH : Held (w2.alloc (gb (.slice a1' n1' c1') (.slice a2' n2' c2') (.slice a3' n3' c3') G.next G.seed)) w1.heap.size w2.heap.size G :=
      ⟨_, _, _, ns, five_new w2 _ _ _ _ _ _, ownG_below OG BA, fun e => by have := (ownG_lt OG _ e).2; omega, s2⟩
    have B2 := (HB1.out.trans (b2.mono (by omega))).trans (BA.mono (by omega))
    have CL := HC1.out w1.heap.size w2.heap.size _ HH
    have HTR2 : Hid _ := five_below (five_below HTR1.out b2) BA
    have HB2 : Hid _ := B2
    have s3 : w1.heap.size ≤ (w2.alloc (gb (.slice a1' n1' c1') (.slice a2' n2' c2') (.slice a3' n3' c3') G.next G.seed)).heap.size := by simp; omega
    clear OG b2 BA HH B2 HC1 HTR1 HB1
    go_wp2_with (go_at_call 42; refine CL.mono ?_; rintro e w4 ⟨rfl, ⟨o4, r4, m4, rs, T4, O4, N4, _⟩, b4⟩; have HT4 : Hid _ := T4; have HO4 : Hid _ := O4; have HB4 : Hid _ := b4; clear T4 O4 b4 N4 CL; refine Hid.out ?_)
    have O4 := HO4.out
    have T4 := HT4.out
    have B4 := HB2.out.trans (HB4.out.mono (by omega))
    have TR4 : Five w4 (n0 + 1) 32 (.slice none 0 0) (.slice none 0 0) (.slice none 0 0) (.int .i64 0) (.int .i64 0) := (HB4.out.block (n0 + 1) (by omega)).trans HTR2.out
    obtain ⟨a1, n1, c1, a2, n2, c2, a3, n3, c3, e1, e2, e3⟩ := graphAt_slices (ownG_at O4)
    subst e1 e2 e3
    obtain ⟨z0, z1, z2, z3, z4, _⟩ := five_cells T4
    obtain ⟨v0, v1, v2, v3, v4, vf⟩ := five_cells TR4
    have g0 := vf 0
    have g1 := vf 1
    have g2 := vf 2
    have g3 := vf 3
    have g4 := vf 4
    have HOW : Hid _ := ownG_base (ownG_ch O4 (five_other (X := w4) (b := n0 + 1) (.slice a1 n1 c1) (.slice a2 n2 c2) (.slice a3 n3 c3) (.int .i64 R.next) (.int .i64 R.seed)) (fun x hx e => by have := (ownG_lt O4 x hx).1; rw [List.mem_singleton] at e; omega)) (show n0 ≤ w1.heap.size by omega)
    have HTX : Hid _ := five_sets TR4 (.slice a1 n1 c1) (.slice a2 n2 c2) (.slice a3 n3 c3) (.int .i64 R.next) (.int .i64 R.seed)
    have HBX : Hid _ := five_belows B4 (show n0 ≤ n0 + 1 by omega) (.slice a1 n1 c1) (.slice a2 n2 c2) (.slice a3 n3 c3) (.int .i64 R.next) (.int .i64 R.seed)
    clear vf O4 T4 B4 TR4 HO4 HT4 HB4 HB2 HTR2
    refine Go.Lib.hid ?_
    go_wp2
    exact bodyPost_ret (res_gr rfl rfl HTX.out) rfl ⟨_, _, _, rs, rfl, HOW.out, HBX.out⟩
end Go.Proofs.Ytfajnnibkcnkaal.gr
namespace Go.Proofs.Ytfajnnibkcnkaal.gr
open Go.RowKit rows heads
set_option maxRecDepth 100000
set_option linter.unusedVariables false

theorem ho_list {w : World} {base P : Nat} {o r m : Value} {ms : List MO} {G : Gr} {S : List Nat} (h : HO w base P o r m ms G []) (hs : ∀ b ∈ S, w.heap.size ≤ b) : HO w base P o r m ms G S := by
  refine ⟨h.1, h.2.1, h.2.2.1, h.2.2.2.1, fun k hk => ?_⟩
  have := lt_of_block h.1
  have h1 := hs k hk
  exact ⟨by omega, fun e => by have := (ownG_lt h.2.1 k e).2; omega⟩
theorem ho_ch {w w' : World} {base P : Nat} {o r m : Value} {ms : List MO} {G : Gr} {S D : List Nat} (h : HO w base P o r m ms G S) (c : Ch D w w') (hp : P ∉ D) (hg : ∀ x ∈ gblk o r m ms, x ∉ D) : HO w' base P o r m ms G S := ⟨five_ch h.1 c hp, ownG_ch h.2.1 c hg, h.2.2.1, h.2.2.2.1, h.2.2.2.2⟩
theorem gblk_set (o r m : Value) (ms : List MO) (k : Nat) (s : List Rf) : gblk o r m (ms.set k { ms.getD k moD with slots := s }) = gblk o r m ms := by unfold gblk; rw [blks_same]

/-- What holds between two objects of the loop. -/
structure CS (w4 wz : World) (base P Q : Nat) (o r m v5 : Value) (n : Nat) (X : Gr) (f : Nat → Bool) (zs : List Int) (os : List Ob) (S : List Nat) (k : Nat) (ms : List MO) (u0 : Value) : Prop where
  len : ms.length = n
  ho : HO wz base P o r m ms { X with objs := os } (S ++ (Q :: blk v5))
  lt : ∀ x ∈ gblk o r m ms, x < Q
  pq : P < Q
  lv : ∀ x ∈ blk v5, x < Q
  five : Five wz Q 32 u0 r m (.int .i64 X.next) (.int .i64 X.seed)
  row : OwnRow wz (Q + 1) u0 (keptM ms f k)
  own : Own wz w4.heap.size v5 zs
  bel : Below base w4 wz
theorem CS.below {w4 wz w' : World} {base P Q n k : Nat} {o r m v5 u0 : Value} {X : Gr} {f : Nat → Bool} {zs : List Int} {os : List Ob} {S : List Nat} {ms : List MO} (h : CS w4 wz base P Q o r m v5 n X f zs os S k ms u0) (hb : Below wz.heap.size wz w') (hs : base ≤ wz.heap.size) : CS w4 w' base P Q o r m v5 n X f zs os S k ms u0 :=
  ⟨h.len, ho_below h.ho hb, h.lt, h.pq, h.lv, five_below h.five hb, row_below h.row hb, own_below h.own hb, h.bel.trans (hb.mono hs)⟩
theorem CS.more {w4 wz : World} {base P Q n k : Nat} {o r m v5 u0 : Value} {X : Gr} {f : Nat → Bool} {zs : List Int} {os : List Ob} {S : List Nat} {ms : List MO} (h : CS w4 wz base P Q o r m v5 n X f zs os S k ms u0) {b : Nat} (hb : wz.heap.size ≤ b) : CS w4 wz base P Q o r m v5 n X f zs os (b :: S) k ms u0 :=
  ⟨h.len, ho_more h.ho hb, h.lt, h.pq, h.lv, h.five, h.row, h.own, h.bel⟩
theorem CS.less {w4 wz : World} {base P Q n k : Nat} {o r m v5 u0 : Value} {X : Gr} {f : Nat → Bool} {zs : List Int} {os : List Ob} {S : List Nat} {ms : List MO} (h : CS w4 wz base P Q o r m v5 n X f zs os S k ms u0) : CS w4 wz base P Q o r m v5 n X f zs os [] k ms u0 :=
  ⟨h.len, ho_less h.ho (fun x hx => List.mem_append_right _ hx), h.lt, h.pq, h.lv, h.five, h.row, h.own, h.bel⟩
theorem CS.objs {w4 wz : World} {base P Q n k : Nat} {o r m v5 u0 : Value} {X : Gr} {f : Nat → Bool} {zs : List Int} {os os' : List Ob} {S : List Nat} {ms : List MO} (h : CS w4 wz base P Q o r m v5 n X f zs os S k ms u0) (e : os = os') : CS w4 wz base P Q o r m v5 n X f zs os' S k ms u0 := e ▸ h
/-- It is not kept: nothing more is told. -/
theorem CS.skip {w4 wz : World} {base P Q n k : Nat} {o r m v5 u0 : Value} {X : Gr} {f : Nat → Bool} {zs : List Int} {os : List Ob} {S : List Nat} {ms : List MO} (h : CS w4 wz base P Q o r m v5 n X f zs os S k ms u0) (hf : f k = false) : CS w4 wz base P Q o r m v5 n X f zs os S (k + 1) ms u0 :=
  ⟨h.len, h.ho, h.lt, h.pq, h.lv, h.five, by rw [keptM_next, hf, if_neg (by simp), List.append_nil]; exact h.row, h.own, h.bel⟩
/-- A slot of the next one is made nil. -/
theorem CS.slot {w4 wz : World} {base P Q n k : Nat} {o r m v5 u0 : Value} {X : Gr} {f : Nat → Bool} {zs : List Int} {os : List Ob} {S : List Nat} {ms : List MO} (h : CS w4 wz base P Q o r m v5 n X f zs os S k ms u0) (hk : k < n) {q sn sc : Nat} (hv : (ms.getD k moD).sv = .slice (some ⟨q, 0, none⟩) sn sc) (j : Nat) :
    CS w4 (put2 wz q j (0, 0)) base P Q o r m v5 n X f zs (setSlot os k j refD) S k (ms.set k { ms.getD k moD with slots := (ms.getD k moD).slots.set j (0, 0) }) u0 ∧ (∀ x ∈ S, (put2 wz q j (0, 0)).heap[x]? = wz.heap[x]?) := by
  obtain ⟨s1, s2, s3, s4⟩ := ho_setSlot h.ho (k := k) (by rw [h.len]; exact hk) hv j (0, 0)
  have hq : q ∈ gblk o r m ms := by
    simp only [gblk, blks, List.mem_append, List.mem_flatMap]
    exact .inl (.inl (.inr ⟨_, mem_getD (by rw [h.len]; exact hk), by rw [hv]; simp [blk_some]⟩))
  have hqQ := h.lt q hq
  have C := put2_ch wz q j (0, 0)
  refine ⟨⟨by rw [List.length_set]; exact h.len, s1, by rw [gblk_set]; exact h.lt, h.pq, h.lv, five_ch h.five C (fun e => by rw [List.mem_singleton] at e; omega), ?_, row_ch h.own C (fun x hx e => ?_), h.bel.trans s2⟩, fun x hx => s3 x (List.mem_append_left _ hx)⟩
  · rw [keptM_set]
    exact row_ch h.row C (fun x hx e => by
      rw [List.mem_singleton] at e
      have := (blk_lt h.row x hx).1
      omega)
  · rw [List.mem_singleton] at e
    subst e
    exact (h.ho.2.2.2.2 x (List.mem_append_right _ (List.mem_cons_of_mem _ hx))).2 hq
/-- It is told. -/
theorem CS.told {w4 wz w' : World} {base P Q n k : Nat} {o r m v5 u0 v' : Value} {X : Gr} {f : Nat → Bool} {zs : List Int} {os : List Ob} {S : List Nat} {ms : List MO} (h : CS w4 wz base P Q o r m v5 n X f zs os S k ms u0) (hf : f k = true) (hs : base ≤ Q) {M : MO} (hM : cellsO [ms.getD k moD] = cellsO [M])
    (h1 : w'.ownsRow (Q + 1) 51 5 v' ((keptM ms f k).length + 1) (cellsO (keptM ms f k) ++ cellsO [M])) (h2 : wz.grownBy w' u0.ownBlock) :
    w'.cell? ⟨Q, 0, none⟩ = some u0 ∧ w'.frozen? ⟨Q, 0, none⟩ = false ∧ (∃ a n c, v' = .slice a n c) ∧ CS w4 (w'.setCell ⟨Q, 0, none⟩ v') base P Q o r m v5 n X f zs os [] (k + 1) ms v' := by
  have C1 := ch_grown h2
  have hu : ∀ x ∈ blk u0, Q + 1 ≤ x := fun x hx => (blk_lt h.row x hx).1
  have F1 := five_ch h.five C1 (fun e => by have := hu Q e; omega)
  obtain ⟨c0, _, _, _, _, cf⟩ := five_cells F1
  have C2 := one_ch w' Q 0 v'
  have on : OwnRow w' (Q + 1) v' (keptM ms f (k + 1)) := by
    unfold OwnRow
    rw [keptM_next, hf, if_pos rfl, cellsO_append, hM, List.length_append]
    exact h1
  have sl : ∃ a n c, v' = .slice a n c := by
    obtain ⟨h0, ⟨h1, h2⟩ | ⟨g, cap, cur, h1, _⟩⟩ := on
    · exact ⟨_, _, _, h1⟩
    · exact ⟨_, _, _, h1⟩
  have HL := (ho_less h.ho (S' := Q :: blk v5) (fun x hx => List.mem_append_right _ hx))
  have H1 := ho_ch HL C1 (fun e => by have := hu P e; have := h.pq; omega) (fun x hx e => by have := hu x e; have := h.lt x hx; omega)
  have H2 := ho_ch H1 C2 (fun e => by rw [List.mem_singleton] at e; have := h.pq; omega) (fun x hx e => by rw [List.mem_singleton] at e; have := h.lt x hx; omega)
  refine ⟨c0, cf 0, sl, ⟨h.len, H2, h.lt, h.pq, h.lv, five_set0 F1 v', row_ch on C2 (fun x hx e => by rw [List.mem_singleton] at e; have := (blk_lt on x hx).1; omega), row_ch (row_ch h.own C1 (fun x hx e => by have := hu x e; have := h.lv x hx; omega)) C2 (fun x hx e => by rw [List.mem_singleton] at e; have := h.lv x hx; omega), ?_⟩⟩
  exact (h.bel.grown h2 (show base ≤ wz.heap.size by have := lt_of_block h.five; omega) (fun j e => by
    have := (World.ownsRow.lt h.row j e).1
    omega)).setCell (p := ⟨Q, 0, none⟩) hs v'

set_option maxHeartbeats 8000000 in
theorem l7Collected_any {w : World} {o r m : Value} {ms : List MO} {G R : Gr} (h : GraphAt w o r m ms G) (hs : gSize ms G ≤ 1048576) (ok : gOk G = true) (hC : Collects G R) :
    Calls Try.prog 48 #[gv o r m G.next G.seed] w fun e w' => ∃ o' r' m' rs, e = .returned (gv o' r' m' R.next R.seed) ∧ OwnG w' w.heap.size o' r' m' rs R ∧ Below w.heap.size w w' := by
  obtain ⟨X, f, hM, hf, rfl⟩ := hC
  have hRX : Right X := by obtain ⟨L, hL⟩ := hM; exact rounds_right (right_of ok) hL
  obtain ⟨a1, n1, c1, a2, n2, c2, a3, n3, c3, e1, e2, e3⟩ := graphAt_slices h
  subst e1 e2 e3
  generalize hn0 : w.heap.size = n0 at *
  have B0 : Below n0 w ((w.alloc (gb (.slice a1 n1 c1) (.slice a2 n2 c2) (.slice a3 n3 c3) G.next G.seed)).alloc (gb (.slice none 0 0) (.slice none 0 0) (.slice none 0 0) 0 0)) := (((Below.refl _ w).alloc (by first | omega | (simp; omega)) _).alloc (by first | omega | (simp; omega)) _)
  have TP : Five ((w.alloc (gb (.slice a1 n1 c1) (.slice a2 n2 c2) (.slice a3 n3 c3) G.next G.seed)).alloc (gb (.slice none 0 0) (.slice none 0 0) (.slice none 0 0) 0 0)) n0 32 (.slice a1 n1 c1) (.slice a2 n2 c2) (.slice a3 n3 c3) (.int .i64 G.next) (.int .i64 G.seed) := by
    rw [← hn0]
    exact heap_push (heap_alloc_new _ _)
  have TR : Five ((w.alloc (gb (.slice a1 n1 c1) (.slice a2 n2 c2) (.slice a3 n3 c3) G.next G.seed)).alloc (gb (.slice none 0 0) (.slice none 0 0) (.slice none 0 0) 0 0)) (n0 + 1) 32 (.slice none 0 0) (.slice none 0 0) (.slice none 0 0) (.int .i64 0) (.int .i64 0) := by
    rw [show n0 + 1 = (w.alloc (gb (.slice a1 n1 c1) (.slice a2 n2 c2) (.slice a3 n3 c3) G.next G.seed)).heap.size by simp; omega]
    exact heap_alloc_new _ _
  have hX : n0 + 2 ≤ ((w.alloc (gb (.slice a1 n1 c1) (.slice a2 n2 c2) (.slice a3 n3 c3) G.next G.seed)).alloc (gb (.slice none 0 0) (.slice none 0 0) (.slice none 0 0) 0 0)).heap.size := by simp; omega
  have CG := l6Copy_any (graphAt_below h (by rw [hn0]; exact B0)) hs
  obtain ⟨z0, z1, z2, z3, z4, _⟩ := five_cells TP
  have HM : Hid _ := hM
  have HF : Hid _ := hf
  have HR : Hid _ := hRX
  have HRO : Hid _ := right_of ok
  have HTR : Hid _ := TR
  have HB0 : Hid _ := B0
  clear h hs hM hf hRX TP TR B0 ok
  go_enter Try.func48, Try.ntmps48
  go_wp2_with fail
  generalize ((w.alloc (gb (.slice a1 n1 c1) (.slice a2 n2 c2) (.slice a3 n3 c3) G.next G.seed)).alloc (gb (.slice none 0 0) (.slice none 0 0) (.slice none 0 0) 0 0)) = V at *
  refine CG.mono ?_
  rintro e w2 ⟨o', r', m', ns, rfl, OG, b2⟩
  obtain ⟨a1', n1', c1', a2', n2', c2', a3', n3', c3', e1, e2, e3⟩ := graphAt_slices (ownG_at OG)
  subst e1 e2 e3
  have s2 := b2.size
  have BA : Below w2.heap.size w2 (w2.alloc (gb (.slice a1' n1' c1') (.slice a2' n2' c2') (.slice a3' n3' c3') G.next G.seed)) := (Below.refl _ w2).alloc (Nat.le_refl _) _
  have HH : Held (w2.alloc (gb (.slice a1' n1' c1') (.slice a2' n2' c2') (.slice a3' n3' c3') G.next G.seed)) V.heap.size w2.heap.size G :=
    ⟨_, _, _, ns, five_new w2 _ _ _ _ _ _, ownG_below OG BA, fun e => by have := (ownG_lt OG _ e).2; omega, s2⟩
  have CL := l7Mourn_any HH HRO.out HM.out
  have HTR2 : Hid _ := five_below (five_below HTR.out b2) BA
  have HB2 : Hid _ := (HB0.out.trans (b2.mono (by omega))).trans (BA.mono (by omega))
  have s3 : V.heap.size ≤ (w2.alloc (gb (.slice a1' n1' c1') (.slice a2' n2' c2') (.slice a3' n3' c3') G.next G.seed)).heap.size := by simp; omega
  clear CG OG b2 BA HH HTR HB0 z0 z1 z2 z3 z4
  go_wp2_with fail
  generalize hW3 : w2.alloc (gb (.slice a1' n1' c1') (.slice a2' n2' c2') (.slice a3' n3' c3') G.next G.seed) = W3 at *
  generalize hP : w2.heap.size = P at *
  clear hW3 hP
  refine CL.mono ?_
  rintro e w4 ⟨rfl, ⟨o, r, m, ms, T4, O4, N4, hb4⟩, b4⟩
  have s4 := b4.size
  obtain ⟨a1, n1, c1, a2, n2, c2, a3, n3, c3, e1, e2, e3⟩ := graphAt_slices (ownG_at O4)
  subst e1 e2 e3
  have en : n1 = ms.length := by
    obtain ⟨a', c', e', _⟩ := (ownO_at O4.2.1).1
    injection e'
  subst en
  have hlen := own_len O4
  have h200 : ms.length ≤ 200 := by rw [hlen]; exact (gOk_len HR.out.gOk).1
  have hzl : (pick X.objs f X.objs.length).length ≤ 1048576 := by
    unfold pick
    rw [List.length_map]
    exact Nat.le_trans (List.length_filter_le _ _) (by simp; omega)
  have RR := l7Reached_any (ownG_at O4) HR.out.gOk (zs := pick X.objs f X.objs.length) ⟨f, HF.out, rfl⟩
  obtain ⟨zs, hzs⟩ : ∃ zs, pick X.objs f X.objs.length = zs := ⟨_, rfl⟩
  rw [hzs] at RR hzl
  obtain ⟨z0, z1, z2, z3, z4, _⟩ := five_cells T4
  have HH4 : Hid (HO w4 V.heap.size P (.slice a1 ms.length c1) (.slice a2 n2 c2) (.slice a3 n3 c3) ms X []) := ⟨T4, O4, N4, hb4, fun k hk => by simp at hk⟩
  have HTR4 : Hid (Five w4 (n0 + 1) 32 (.slice none 0 0) (.slice none 0 0) (.slice none 0 0) (.int .i64 0) (.int .i64 0)) := (b4.block (n0 + 1) (by omega)).trans HTR2.out
  have HB4 : Hid (Below n0 w w4) := HB2.out.trans (b4.mono (by omega))
  have HZ : Hid _ := hzs
  have HLEN : Hid _ := hlen
  have hP4 := lt_of_block T4
  clear CL T4 O4 N4 b4 HTR2 HB2 hzs hlen
  go_wp2_with fail
  refine RR.mono ?_
  rintro e w5 ⟨v5, rfl, O5, b5⟩
  obtain ⟨va, vc, rfl, _, _, _, _⟩ := own_ints O5
  have s5 := b5.size
  have hP5 : P < w5.heap.size := by omega
  have HB5 : Hid _ := b5
  have HO5 : Hid _ := O5
  have y0 := (b5.cell (p := ⟨P, 0, none⟩) hP4).trans z0
  have y1 := (b5.cell (p := ⟨P, 1, none⟩) hP4).trans z1
  have y2 := (b5.cell (p := ⟨P, 2, none⟩) hP4).trans z2
  have y3 := (b5.cell (p := ⟨P, 3, none⟩) hP4).trans z3
  have y4 := (b5.cell (p := ⟨P, 4, none⟩) hP4).trans z4
  clear RR b5 O5 z0 z1 z2 z3 z4
  have hb5 : Below w5.heap.size w5 ((w5.alloc (gb (.slice (some ⟨w5.heap.size + 1, 0, none⟩) 0 0) (.slice a2 n2 c2) (.slice a3 n3 c3) X.next X.seed)).alloc (.cells #[] 51)) := ((Below.refl _ _).alloc (Nat.le_refl _) _).alloc (by simp) _
  have HCS0 : Hid (CS w4 ((w5.alloc (gb (.slice (some ⟨w5.heap.size + 1, 0, none⟩) 0 0) (.slice a2 n2 c2) (.slice a3 n3 c3) X.next X.seed)).alloc (.cells #[] 51)) V.heap.size P w5.heap.size (.slice a1 ms.length c1) (.slice a2 n2 c2) (.slice a3 n3 c3) (.slice va zs.length vc) ms.length X f zs (looseK X.objs f 0) [] 0 ms (.slice (some ⟨w5.heap.size + 1, 0, none⟩) 0 0)) := by
    refine ⟨rfl, ?_, fun x hx => ?_, hP5, fun x hx => (blk_lt HO5.out x hx).2, five_below (five_new w5 _ _ _ _ _ _) ((Below.refl _ _).alloc (Nat.le_refl _) _), ?_, own_below HO5.out hb5, ?_⟩
    · refine ho_objs (ho_below (ho_list HH4.out (fun b hb => ?_)) (HB5.out.trans (hb5.mono s5))) (looseK_zero X.objs f).symm
      rcases List.mem_cons.1 hb with rfl | hb
      · exact s5
      · exact (blk_lt HO5.out b hb).1
    · have := (ownG_lt HH4.out.2.1 x hx).2
      omega
    · refine ⟨rfl, .inr ⟨w5.heap.size + 1, 0, #[], rfl, Nat.le_refl _, ?_, Nat.le_refl _, by decide, rfl, rfl⟩⟩
      have := heap_alloc_new (w5.alloc (gb (.slice (some ⟨w5.heap.size + 1, 0, none⟩) 0 0) (.slice a2 n2 c2) (.slice a3 n3 c3) X.next X.seed)) (.cells #[] 51)
      simpa using this
    · exact (HB5.out.trans (hb5.mono s5)).mono (by omega)
  go_wp2_with fail
  generalize ((w5.alloc (gb (.slice (some ⟨w5.heap.size + 1, 0, none⟩) 0 0) (.slice a2 n2 c2) (.slice a3 n3 c3) X.next X.seed)).alloc (.cells #[] 51)) = W8 at *
  generalize hQ : w5.heap.size = Q at *
  have hQb : V.heap.size ≤ Q := by omega
  have hbw4 : V.heap.size ≤ w4.heap.size := by omega
  clear hQ y0 y1 y2 y3 y4 hb5 HB5 HO5
  go_loopw [6] (fun i wz => ∃ (k : Nat) (ms' : List MO) (u0 : Value), k ≤ ms.length ∧ i = .int .i64 (k : Int) ∧ CS w4 wz V.heap.size P Q (.slice a1 ms.length c1) (.slice a2 n2 c2) (.slice a3 n3 c3) (.slice va zs.length vc) ms.length X f zs (looseK X.objs f k) [] k ms' u0) (fun i _ => ms.length - (intOf i).toNat)
  case atStart => exact ⟨0, ms, _, Nat.zero_le _, rfl, HCS0.out⟩
  case round =>
    obtain ⟨k, ms', u0, hk, rfl, hS⟩ := hrel
    clear HCS0
    have hw : V.heap.size ≤ wr.heap.size := Nat.le_trans hbw4 hS.bel.size
    obtain ⟨p0, _⟩ := five_cells hS.ho.1
    by_cases hlt : k < ms.length
    · have hlt' : (k : Int) < (ms.length : Int) := by omega
      have hkx : k < X.objs.length := by have := HLEN.out; omega
      have hml := hS.len
      obtain ⟨a', c', e', _, _, _, hco⟩ := (ownO_at hS.ho.2.1.2.1).1
      have e1 : a1 = a' := by injection e'
      have e3 : c1 = c' := by injection e'
      subst e1 e3
      obtain ⟨b, off, rfl, hb, hcc⟩ := hco (by omega)
      obtain ⟨x0, x1, x2, x3, x4⟩ := hcc k (by omega)
      have eM : (ms'.getD k moD).abs = X.objs.getD k obD := by
        rw [← abs_getD, hS.ho.2.1.1]
        exact looseK_fmt hkx (Nat.lt_irrefl _)
      obtain ⟨sa, sn, sc, hsv⟩ := objs_slices (ownO_at hS.ho.2.1.2.1) _ (mem_getD (ms := ms') (i := k) (by omega))
      have hid : (ms'.getD k moD).id = (X.objs.getD k obD).id := congrArg Ob.id eM
      have hfm : (ms'.getD k moD).fmt = (X.objs.getD k obD).fmt := congrArg Ob.fmt eM
      have hsl : (ms'.getD k moD).slots = (X.objs.getD k obD).slots := congrArg Ob.slots eM
      have hOR := hS.ho.2.1.2.1.2.1 _ (mem_getD (ms := ms') (i := k) (by omega))
      have eL : sn = (X.objs.getD k obD).slots.length := by
        rw [← hsl]
        rw [hsv] at hOR
        obtain ⟨_, ⟨h1, h2⟩ | ⟨g', cap', cur, h1, _⟩⟩ := hOR
        · injection h1 with _ h3 _; omega
        · injection h1
      have hL20 : sn ≤ 1048576 := by rw [eL]; exact slots_small HR.out hkx
      have hpm := pick_mem HR.out (f := f) hkx
      rw [HZ.out] at hpm
      generalize hMid : (ms'.getD k moD).id = mi at *
      generalize hMcl : (ms'.getD k moD).cls = mc at *
      generalize hMfm : (ms'.getD k moD).fmt = mf at *
      generalize hMha : (ms'.getD k moD).hash = mh at *
      rw [hsv] at x4
      rw [← hid] at hpm
      have b1 : Below wr.heap.size wr (wr.alloc (ob ⟨mi, mc, mf, mh, .slice sa sn sc, []⟩)) := (Below.refl _ _).alloc (Nat.le_refl _) _
      obtain ⟨y0, y1, y2, y3, y4⟩ := ob_cells (heap_alloc_new wr (ob ⟨mi, mc, mf, mh, .slice sa sn sc, []⟩))
      simp only at y0 y1 y2 y3 y4
      have hS1 := (hS.more (Nat.le_refl wr.heap.size)).below b1 hw
      have LH := l1Has_any (w := wr.alloc (ob ⟨mi, mc, mf, mh, .slice sa sn sc, []⟩)) (own_ints hS1.own) hzl mi
      rw [hpm] at LH
      have HS1 : Hid _ := hS1
      have HT1 : Hid _ := heap_alloc_new wr (ob ⟨mi, mc, mf, mh, .slice sa sn sc, []⟩)
      have HMM : Hid ((ms'.getD k moD).id = mi ∧ (ms'.getD k moD).cls = mc ∧ (ms'.getD k moD).fmt = mf ∧ (ms'.getD k moD).hash = mh ∧ (ms'.getD k moD).sv = .slice sa sn sc) := ⟨hMid, hMcl, hMfm, hMha, hsv⟩
      have HEL : Hid _ := eL
      have HFM : Hid (mf = (X.objs.getD k obD).fmt) := hfm
      clear hS hS1 hco hcc eM hsl hOR eL hpm hMid hMcl hMfm hMha hsv hid hfm e' b1
      cases hfk : f k
      · rw [hfk] at LH
        have ST : Hid (CS w4 (wr.alloc (ob ⟨mi, mc, mf, mh, .slice sa sn sc, []⟩)) V.heap.size P Q (.slice (some ⟨b, off, none⟩) ms.length c1) (.slice a2 n2 c2) (.slice a3 n3 c3) (.slice va zs.length vc) ms.length X f zs (looseK X.objs f (k + 1)) [] (k + 1) ms' u0) := (HS1.out.less.skip hfk).objs (looseK_skip hkx (.inl hfk)).symm
        clear HS1
        go_wp2_with (go_at_call 62; refine LH.mono ?_; clear LH; rintro e w9 ⟨rfl, hw9⟩; rw [hw9]; clear hw9 w9)
        exact ⟨⟨k + 1, ms', u0, by omega, by go_num, ST.out⟩, by simp [intOf]; omega⟩
      · rw [hfk] at LH
        have HI0 : Hid (CS w4 (wr.alloc (ob ⟨mi, mc, mf, mh, .slice sa sn sc, []⟩)) V.heap.size P Q (.slice (some ⟨b, off, none⟩) ms.length c1) (.slice a2 n2 c2) (.slice a3 n3 c3) (.slice va zs.length vc) ms.length X f zs (looseJ X.objs f k 0) [wr.heap.size] k ms' u0) := HS1.out.objs (looseJ_zero hkx).symm
        clear HS1
        go_wp2_with (go_at_call 62; refine LH.mono ?_; clear LH; rintro e w9 ⟨rfl, hw9⟩; rw [hw9]; clear hw9 w9)
        generalize wr.alloc (ob ⟨mi, mc, mf, mh, .slice sa sn sc, []⟩) = X1 at *
        generalize wr.heap.size = bx at *
        clear x0 x1 x2 x3 x4 y0 y1 y2 y3 y4 p0
        go_loopw [8] (fun i wy => ∃ (j : Nat) (ms2 : List MO), j ≤ sn ∧ i = .int .i64 (j : Int) ∧ CS w4 wy V.heap.size P Q (.slice (some ⟨b, off, none⟩) ms.length c1) (.slice a2 n2 c2) (.slice a3 n3 c3) (.slice va zs.length vc) ms.length X f zs (looseJ X.objs f k j) [bx] k ms2 u0 ∧ ((ms2.getD k moD).id = mi ∧ (ms2.getD k moD).cls = mc ∧ (ms2.getD k moD).fmt = mf ∧ (ms2.getD k moD).hash = mh ∧ (ms2.getD k moD).sv = .slice sa sn sc) ∧ wy.heap[bx]? = some (ob ⟨mi, mc, mf, mh, .slice sa sn sc, []⟩)) (fun i _ => sn - (intOf i).toNat)
        case atStart => exact ⟨0, ms', Nat.zero_le _, rfl, HI0.out, HMM.out, HT1.out⟩
        case round =>
          obtain ⟨j, ms2, hj, rfl, hS2, hmm2, ht2⟩ := hrel
          clear HI0 HMM HT1
          obtain ⟨y0, y1, y2, y3, y4⟩ := ob_cells ht2
          simp only at y0 y1 y2 y3 y4
          have hw2 : V.heap.size ≤ wr.heap.size := Nat.le_trans hbw4 hS2.bel.size
          by_cases hjl : j < sn
          · have hjl' : (j : Int) < (sn : Int) := by omega
            have es2 := own_abs hS2.ho.2.1 k
            have ej := looseJ_slots (f := f) (i := j) hkx
            have el2 : (ms2.getD k moD).slots.length = sn := by rw [es2, HEL.out]; exact ej.1
            have hOR := hS2.ho.2.1.2.1.2.1 _ (mem_getD (ms := ms2) (i := k) (by rw [hS2.len]; exact hlt))
            rw [hmm2.2.2.2.2] at hOR
            obtain ⟨q, c', e'⟩ := ownR_form hOR (by omega)
            have e1 : sa = some ⟨q, 0, none⟩ := by injection e'
            clear e'
            subst e1
            have cr := ownR_cell hOR (i := j) (by omega)
            have ee : (ms2.getD k moD).slots.getD j refD = (X.objs.getD k obD).slots.getD j refD := by rw [es2]; exact ej.2
            rw [ee] at cr
            have fr0 := row_frozen hOR (j * 2)
            have fr1 := row_frozen hOR (j * 2 + 1)
            have hok := HR.out.sl k hkx j (by have := HEL.out; omega)
            have hPL := pick_loose HR.out (f := f) hok
            rw [HZ.out] at hPL
            have HNX : Hid _ := looseJ_next (f := f) hkx (show j < (X.objs.getD k obD).slots.length by have := HEL.out; omega)
            rw [← HFM.out] at HNX
            generalize hee : (X.objs.getD k obD).slots.getD j refD = ee0 at *
            obtain ⟨e1, e2⟩ := ee0
            obtain ⟨cr0, cr1⟩ := cr
            simp only at cr0 cr1 hPL
            have LH2 := l1Has_any (w := wr) (own_ints hS2.own) hzl e2
            have HNO : Hid ((mf == 1 && looseB X.objs f (e1, e2)) = false → CS w4 wr V.heap.size P Q (.slice (some ⟨b, off, none⟩) ms.length c1) (.slice a2 n2 c2) (.slice a3 n3 c3) (.slice va zs.length vc) ms.length X f zs (looseJ X.objs f k (j + 1)) [bx] k ms2 u0) := fun hn => by
              have := HNX.out
              rw [hn, if_neg (by simp)] at this
              exact hS2.objs this.symm
            have HYE : Hid ((mf == 1 && looseB X.objs f (e1, e2)) = true → CS w4 (put2 wr q j (0, 0)) V.heap.size P Q (.slice (some ⟨b, off, none⟩) ms.length c1) (.slice a2 n2 c2) (.slice a3 n3 c3) (.slice va zs.length vc) ms.length X f zs (looseJ X.objs f k (j + 1)) [bx] k (ms2.set k { ms2.getD k moD with slots := (ms2.getD k moD).slots.set j (0, 0) }) u0 ∧ (((ms2.set k { ms2.getD k moD with slots := (ms2.getD k moD).slots.set j (0, 0) }).getD k moD).id = mi ∧ ((ms2.set k { ms2.getD k moD with slots := (ms2.getD k moD).slots.set j (0, 0) }).getD k moD).cls = mc ∧ ((ms2.set k { ms2.getD k moD with slots := (ms2.getD k moD).slots.set j (0, 0) }).getD k moD).fmt = mf ∧ ((ms2.set k { ms2.getD k moD with slots := (ms2.getD k moD).slots.set j (0, 0) }).getD k moD).hash = mh ∧ ((ms2.set k { ms2.getD k moD with slots := (ms2.getD k moD).slots.set j (0, 0) }).getD k moD).sv = .slice (some ⟨q, 0, none⟩) sn sc) ∧ (put2 wr q j (0, 0)).heap[bx]? = some (ob ⟨mi, mc, mf, mh, .slice (some ⟨q, 0, none⟩) sn sc, []⟩)) := fun hn => by
              have := HNX.out
              rw [hn, if_pos rfl] at this
              obtain ⟨t1, t2⟩ := hS2.slot hlt hmm2.2.2.2.2 j
              obtain ⟨g1, g2, g3, g4⟩ := set_cells ms2 k k ((ms2.getD k moD).slots.set j (0, 0))
              exact ⟨t1.objs this.symm, ⟨g1.trans hmm2.1, g2.trans hmm2.2.1, g3.trans hmm2.2.2.1, g4.trans hmm2.2.2.2.1, (set_sv ms2 k k _).trans hmm2.2.2.2.2⟩, (t2 bx (by simp)).trans ht2⟩
            have HMM2 : Hid _ := hmm2
            have HT2 : Hid _ := ht2
            clear hS2 es2 ej el2 hOR ee hok HNX hee hmm2 ht2
            by_cases h1 : mf = 1
            · subst h1
              by_cases h2 : e1 = 2
              · subst h2
                cases hd : decide (e2 ∈ zs)
                · rw [hd] at LH2 hPL
                  have HY : Hid _ := HYE.out (by rw [← hPL]; rfl)
                  clear HYE HNO hPL hd HMM2 HT2
                  go_wp2_with (go_at_call 62; refine LH2.mono ?_; clear LH2; rintro e w9 ⟨rfl, hw9⟩; rw [hw9]; clear hw9 w9)
                  exact ⟨⟨j + 1, _, by omega, by go_num, HY.out⟩, by simp [intOf]; omega⟩
                · rw [hd] at LH2 hPL
                  have HY : Hid _ := HNO.out (by rw [← hPL]; rfl)
                  clear HYE HNO hPL hd
                  go_wp2_with (go_at_call 62; refine LH2.mono ?_; clear LH2; rintro e w9 ⟨rfl, hw9⟩; rw [hw9]; clear hw9 w9)
                  exact ⟨⟨j + 1, ms2, by omega, by go_num, HY.out, HMM2.out, HT2.out⟩, by simp [intOf]; omega⟩
              · have h2' : (e1 == 2) = false := by simpa using h2
                have HY : Hid _ := HNO.out (by rw [← hPL, h2']; rfl)
                clear HYE HNO hPL LH2
                go_wp2
                exact ⟨⟨j + 1, ms2, by omega, by go_num, HY.out, HMM2.out, HT2.out⟩, by simp [intOf]; omega⟩
            · have h1' : (mf == 1) = false := by simpa using h1
              have HY : Hid _ := HNO.out (by rw [h1']; rfl)
              clear HYE HNO hPL LH2
              go_wp2
              exact ⟨⟨j + 1, ms2, by omega, by go_num, HY.out, HMM2.out, HT2.out⟩, by simp [intOf]; omega⟩
          · have e : j = sn := by omega
            subst e
            have hjl' : ¬ (j : Int) < (j : Int) := by omega
            have hS3 := hS2.objs (show looseJ X.objs f k j = looseK X.objs f (k + 1) by rw [HEL.out]; exact looseJ_all hkx hfk)
            obtain ⟨q0, _⟩ := five_cells hS3.five
            have lQ := lt_of_block hS3.five
            have bA : Below wr.heap.size wr (wr.alloc (ob ⟨mi, mc, mf, mh, .slice sa j sc, []⟩)) := (Below.refl _ _).alloc (Nat.le_refl _) _
            have hS4 := hS3.below bA hw2
            have hM : cellsO [ms2.getD k moD] = cellsO [⟨mi, mc, mf, mh, .slice sa j sc, []⟩] := by
              simp only [cellsO, hmm2.1, hmm2.2.1, hmm2.2.2.1, hmm2.2.2.2.1, hmm2.2.2.2.2]
            have hkl := keptM_len ms2 f k
            have HTOLD : Hid (∀ (v' : Value) (w' : World), _ → _ → _) := fun v' w' h1 h2 => hS4.told (v' := v') (w' := w') hfk hQb hM h1 h2
            have HROW : Hid _ := hS4.row
            have HNW : Hid (∀ i u, (cellsO [⟨mi, mc, mf, mh, .slice sa j sc, []⟩])[i]? = some u → (wr.alloc (ob ⟨mi, mc, mf, mh, .slice sa j sc, []⟩)).cell? ((⟨wr.heap.size, 0, none⟩ : Addr).add i) = some u) := World.news_of_block (heap_alloc_new wr (ob ⟨mi, mc, mf, mh, .slice sa j sc, []⟩))
            have HON : Hid (∀ u ∈ cellsO [⟨mi, mc, mf, mh, .slice sa j sc, []⟩], u.oneCell' = true) := cellsO_one (fun x hx => by rw [List.mem_singleton] at hx; subst hx; exact ⟨_, _, _, rfl⟩)
            have hba : Q + 1 ≤ (wr.alloc (ob ⟨mi, mc, mf, mh, .slice sa j sc, []⟩)).heap.size := by simp; omega
            obtain ⟨ua, un, uc, hus⟩ : ∃ a n c, u0 = .slice a n c := by
              obtain ⟨h0, ⟨h1, h2⟩ | ⟨g, cap, cur, h1, _⟩⟩ := hS4.row
              · exact ⟨_, _, _, h1⟩
              · exact ⟨_, _, _, h1⟩
            subst hus
            generalize (keptM ms2 f k).length = qn at *
            generalize cellsO (keptM ms2 f k) = qc at *
            obtain ⟨i0, hi, hz0, hz1, hz2⟩ := info_parts infoO
            have HI : Hid _ := And.intro hi (And.intro hz0 (And.intro hz1 hz2))
            clear hi hz0 hz1 hz2 hS2 hS3 hS4 bA hM hmm2 ht2
            go_wp2_with (refine wpList_append_own_at _ rfl (.tmp 70) (.tmp 72) 29 rfl (Q + 1) 51 i0 (.agg #[.int .i64 0, .int .i64 0, .int .i64 0, .int .i64 0, .slice none 0 0]) 5 56 Try.underlying29 HI.out.1 HI.out.2.1 HI.out.2.2.1 HI.out.2.2.2 rfl (by decide) (.slice ua un uc) qn qc rfl HROW.out ⟨wr.heap.size, 0, none⟩ 1 1 (cellsO [⟨mi, mc, mf, mh, .slice sa j sc, []⟩]) rfl rfl HNW.out HON.out (by unfold maxLen; omega) (by omega) hba ?_; intro v' w5 hown hgrow _ hat; obtain ⟨t0, t1, ⟨va', vn', vc', rfl⟩, st⟩ := HTOLD.out v' w5 hown hgrow; have HST : Hid _ := st; clear st hown hgrow hat)
            exact ⟨⟨k + 1, ms2, _, by omega, by go_num, HST.out⟩, by simp [intOf]; omega⟩
    · have e : k = ms.length := by omega
      subst e
      have hlt' : ¬ (ms.length : Int) < (ms.length : Int) := by omega
      obtain ⟨q0, q1, q2, q3, q4, _⟩ := five_cells hS.five
      have TR : Five wr (n0 + 1) 32 (.slice none 0 0) (.slice none 0 0) (.slice none 0 0) (.int .i64 0) (.int .i64 0) := (hS.bel.block (n0 + 1) (by omega)).trans HTR4.out
      obtain ⟨v0, v1, v2, v3, v4, vf⟩ := five_cells TR
      have g0 := vf 0
      have g1 := vf 1
      have g2 := vf 2
      have g3 := vf 3
      have g4 := vf 4
      have sub : List.Sublist (keptM ms' f ms.length) ms' := by
        have := keptM_sub ms' f
        rw [hS.len] at this
        exact this
      have O6 := ownG_sub hS.ho.2.1 sub (ownRow_base hS.row (show V.heap.size ≤ Q + 1 by omega)) (fun x hx => by
        have h1 := (blk_lt hS.row x hx).1
        refine ⟨fun e => ?_, fun e => ?_, fun e => ?_⟩
        · have := hS.lt x (by simp only [gblk, List.mem_append]; exact .inl (.inl (.inr e))); omega
        · have := hS.lt x (by simp only [gblk, List.mem_append]; exact .inl (.inr e)); omega
        · have := hS.lt x (by simp only [gblk, List.mem_append]; exact .inr e); omega)
      have eC : (keptM ms' f ms.length).map MO.abs = collO X.objs f X.objs.length := by
        have e1 : ms'.map MO.abs = looseK X.objs f ms.length := hS.ho.2.1.1
        rw [keptM_abs, e1, HLEN.out, ← collO_of _ (Nat.le_refl _)]
      rw [eC] at O6
      obtain ⟨ua, un, uc, hus⟩ : ∃ a n c, u0 = .slice a n c := by
        obtain ⟨h0, ⟨h1, h2⟩ | ⟨g, cap, cur, h1, _⟩⟩ := hS.row
        · exact ⟨_, _, _, h1⟩
        · exact ⟨_, _, _, h1⟩
      subst hus
      have B6 : Below n0 w wr := HB4.out.trans (hS.bel.mono (by omega))
      have HOW : Hid (OwnG _ n0 (.slice ua un uc) (.slice a2 n2 c2) (.slice a3 n3 c3) (keptM ms' f ms.length) (collG X f)) := ownG_base (ownG_ch O6 (five_other (X := wr) (b := n0 + 1) (.slice ua un uc) (.slice a2 n2 c2) (.slice a3 n3 c3) (.int .i64 X.next) (.int .i64 X.seed)) (fun x hx e => by have := (ownG_lt O6 x hx).1; rw [List.mem_singleton] at e; omega)) (show n0 ≤ V.heap.size by omega)
      have HTX : Hid _ := five_sets TR (.slice ua un uc) (.slice a2 n2 c2) (.slice a3 n3 c3) (.int .i64 X.next) (.int .i64 X.seed)
      have HBX : Hid _ := five_belows B6 (show n0 ≤ n0 + 1 by omega) (.slice ua un uc) (.slice a2 n2 c2) (.slice a3 n3 c3) (.int .i64 X.next) (.int .i64 X.seed)
      clear vf TR hS O6 eC sub B6
      go_wp2
      first
        | exact bodyPost_ret (res_gr rfl rfl HTX.out) rfl ⟨_, _, _, rfl, ⟨_, HOW.out⟩, HBX.out⟩
        | exact bodyPost_ret (res_gr rfl rfl HTX.out) rfl ⟨_, _, _, _, rfl, HOW.out, HBX.out⟩

set_option maxHeartbeats 8000000 in
theorem sCollected_any {w : World} {o r m : Value} {ms : List MO} {G R : Gr} (h : GraphAt w o r m ms G) (hs : gSize ms G ≤ 1048576) (hR : gOk G = true → Collects G R) (h0 : gOk G = false → R = gr0) :
    Calls Try.prog 22 #[gv o r m G.next G.seed] w fun e w' => ∃ o' r' m' rs, e = .returned (gv o' r' m' R.next R.seed) ∧ OwnG w' w.heap.size o' r' m' rs R ∧ Below w.heap.size w w' := by
  obtain ⟨a1, n1, c1, a2, n2, c2, a3, n3, c3, e1, e2, e3⟩ := graphAt_slices h
  subst e1 e2 e3
  generalize hn0 : w.heap.size = n0 at *
  have B0 : Below n0 w ((w.alloc (gb (.slice a1 n1 c1) (.slice a2 n2 c2) (.slice a3 n3 c3) G.next G.seed)).alloc (gb (.slice none 0 0) (.slice none 0 0) (.slice none 0 0) 0 0)) := (((Below.refl _ w).alloc (by first | omega | (simp; omega)) _).alloc (by first | omega | (simp; omega)) _)
  have TP : Five ((w.alloc (gb (.slice a1 n1 c1) (.slice a2 n2 c2) (.slice a3 n3 c3) G.next G.seed)).alloc (gb (.slice none 0 0) (.slice none 0 0) (.slice none 0 0) 0 0)) n0 32 (.slice a1 n1 c1) (.slice a2 n2 c2) (.slice a3 n3 c3) (.int .i64 G.next) (.int .i64 G.seed) := by
    rw [← hn0]
    exact heap_push (heap_alloc_new _ _)
  have TR : Five ((w.alloc (gb (.slice a1 n1 c1) (.slice a2 n2 c2) (.slice a3 n3 c3) G.next G.seed)).alloc (gb (.slice none 0 0) (.slice none 0 0) (.slice none 0 0) 0 0)) (n0 + 1) 32 (.slice none 0 0) (.slice none 0 0) (.slice none 0 0) (.int .i64 0) (.int .i64 0) := by
    rw [show n0 + 1 = (w.alloc (gb (.slice a1 n1 c1) (.slice a2 n2 c2) (.slice a3 n3 c3) G.next G.seed)).heap.size by simp; omega]
    exact heap_alloc_new _ _
  have hX : n0 + 2 ≤ ((w.alloc (gb (.slice a1 n1 c1) (.slice a2 n2 c2) (.slice a3 n3 c3) G.next G.seed)).alloc (gb (.slice none 0 0) (.slice none 0 0) (.slice none 0 0) 0 0)).heap.size := by simp; omega
  have HG : Hid (∀ {X : World}, Below n0 w X → GraphAt X (.slice a1 n1 c1) (.slice a2 n2 c2) (.slice a3 n3 c3) ms G) := fun {X} hb => graphAt_below h (by rw [hn0]; exact hb)
  have GO := sGraphOk_any (HG.out B0) hs
  have HC : Hid _ := hR
  have HE : Hid _ := h0
  clear h hR h0
  go_enter Try.func22, Try.ntmps22
  go_wp2_with fail
  generalize ((w.alloc (gb (.slice a1 n1 c1) (.slice a2 n2 c2) (.slice a3 n3 c3) G.next G.seed)).alloc (gb (.slice none 0 0) (.slice none 0 0) (.slice none 0 0) 0 0)) = X at *
  refine GO.mono ?_
  rintro e w1 ⟨rfl, b1⟩
  have B1 := B0.trans (b1.mono (by omega))
  have TP1 := five_below TP b1
  have TR1 := five_below TR b1
  have s1 : n0 + 2 ≤ w1.heap.size := Nat.le_trans hX b1.size
  clear GO TP TR B0 b1 hX
  cases ok : gOk G
  · have ERG := HE.out ok
    subst ERG
    obtain ⟨v0, v1, v2, v3, v4, vf⟩ := five_cells TR1
    have g0 := vf 0
    have g1 := vf 1
    have g2 := vf 2
    have g3 := vf 3
    have g4 := vf 4
    have HTX : Hid _ := five_sets TR1 (.slice none 0 0) (.slice none 0 0) (.slice none 0 0) (.int .i64 0) (.int .i64 0)
    have HBX : Hid _ := five_belows B1 (show n0 ≤ n0 + 1 by omega) (.slice none 0 0) (.slice none 0 0) (.slice none 0 0) (.int .i64 0) (.int .i64 0)
    clear HC HG HE TP1 TR1 B1 vf
    go_wp2
    exact bodyPost_ret (res_gr rfl rfl HTX.out) rfl ⟨_, _, _, [], rfl, ownG_zero _ _, HBX.out⟩
  · have CL := l7Collected_any (HG.out B1) hs ok (HC.out ok)
    obtain ⟨z0, z1, z2, z3, z4, _⟩ := five_cells TP1
    have HTR1 : Hid _ := TR1
    have HB1 : Hid _ := B1
    clear HC HG HE TP1 TR1 B1
    go_wp2_with fail
    refine CL.mono ?_
    rintro e w4 ⟨o4, r4, m4, rs, rfl, O4, b4⟩
    have TR4 := five_below HTR1.out b4
    have B4 := HB1.out.trans (b4.mono (by omega))
    obtain ⟨a1, n1, c1, a2, n2, c2, a3, n3, c3, e1, e2, e3⟩ := graphAt_slices (ownG_at O4)
    subst e1 e2 e3
    obtain ⟨v0, v1, v2, v3, v4, vf⟩ := five_cells TR4
    have g0 := vf 0
    have g1 := vf 1
    have g2 := vf 2
    have g3 := vf 3
    have g4 := vf 4
    have HOW : Hid _ := ownG_base (ownG_ch O4 (five_other (X := w4) (b := n0 + 1) (.slice a1 n1 c1) (.slice a2 n2 c2) (.slice a3 n3 c3) (.int .i64 R.next) (.int .i64 R.seed)) (fun x hx e => by have := (ownG_lt O4 x hx).1; rw [List.mem_singleton] at e; omega)) (show n0 ≤ w1.heap.size by omega)
    have HTX : Hid _ := five_sets TR4 (.slice a1 n1 c1) (.slice a2 n2 c2) (.slice a3 n3 c3) (.int .i64 R.next) (.int .i64 R.seed)
    have HBX : Hid _ := five_belows B4 (show n0 ≤ n0 + 1 by omega) (.slice a1 n1 c1) (.slice a2 n2 c2) (.slice a3 n3 c3) (.int .i64 R.next) (.int .i64 R.seed)
    clear vf O4 B4 TR4 HB1 HTR1 CL b4 z0 z1 z2 z3 z4
    go_wp2
    exact bodyPost_ret (res_gr rfl rfl HTX.out) rfl ⟨_, _, _, rs, rfl, HOW.out, HBX.out⟩
end Go.Proofs.Ytfajnnibkcnkaal.gr
namespace Go.Proofs.Ytfajnnibkcnkaal.gr
open Go.RowKit rows heads

theorem coll_mem {X : Gr} (h : Right X) {f : Nat → Bool} {o : Ob} (ho : o ∈ (collG X f).objs) : o.slots.length ≤ 20 := by
  obtain ⟨p, hp, rfl⟩ := List.mem_map.1 ho
  have hp := List.mem_range.1 (List.mem_filter.1 hp).1
  rw [looseO_slots]
  have := (hok_true (obOk_lt (h.ob p hp)).2.2.2).2.1
  omega
theorem coll_small {X : Gr} (h : Right X) (f : Nat → Bool) : Small (collG X f) := by
  intro rs er
  have hp := head_parts h.head
  have l1 : rs.length = (collG X f).objs.length := by rw [← er]; simp
  have l2 : slotsLen rs = slotsOf (collG X f).objs := by rw [slotsOf_abs, er]
  have lc : (collG X f).objs.length ≤ X.objs.length := by
    show (collO X.objs f X.objs.length).length ≤ _
    unfold collO
    rw [List.length_map]
    exact Nat.le_trans (List.length_filter_le _ _) (by simp)
  have l3 := slotsOf_le (collG X f).objs (fun i hi => by
    have := coll_mem h (f := f) (o := (collG X f).objs.getD i obD) (by rw [List.getD_eq_getElem?_getD, List.getElem?_eq_getElem hi]; exact List.getElem_mem hi)
    omega)
  have e1 : (collG X f).roots = X.roots := rfl
  have e2 : (collG X f).mourned = X.mourned := rfl
  unfold gSize
  rw [e1, e2]
  omega
end Go.Proofs.Ytfajnnibkcnkaal.gr
