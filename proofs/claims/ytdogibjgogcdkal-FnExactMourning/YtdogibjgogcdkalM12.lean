/-
  Chapter 7 as the specification has it: l7Grieving. Chapter 7 as the specification has it: Grieving. The walk of the law FnExactMourning, given what the program's and the specification's Mourning answer. 'copy' and 'clear' on slices whose elements take more than one cell. Chapter 6 as the program has it: copies of lists of refs and of objects, by make and copy. Chapter 6 as the program has it: a graph copied whole.
-/
import Derived.Test.YtdogibjgogcdkalM9
import Derived.Test.YtdogibjgogcdkalM11
import Derived.Deep.QuietTactic
import Derived.BigQuiet
import Derived.Test.YtdogibjgogcdkalM4
import Derived.Test.YtdogibjgogcdkalM3
import Derived.Test.YtdogibjgogcdkalProg
import Derived.Laws.CopyOwn
import Derived.Deep.RegionLaw
import Derived.Test.YtdogibjgogcdkalM7
import Derived.Deep.Cut
import Derived.Deep.CutRange
import Derived.Test.YtdogibjgogcdkalM5
namespace Go.Proofs.Ytdogibjgogcdkal.gr
open Go.RowKit rows heads region
set_option maxRecDepth 100000
set_option linter.unusedVariables false

/-- The Ids, the Hashes at these places. -/
abbrev idsG (os : List Ob) (ps : List Nat) : List Int := ps.map fun p => (os.getD p obD).id
abbrev hshG (os : List Ob) (ps : List Nat) : List Int := ps.map fun p => (os.getD p obD).hash
theorem rs_f0 (b : Nat) (w : World) : (Instr.fieldAt 51 (.pointer (some ⟨b, 0, none⟩)) 0).run Try.prog w = .ok (.pointer (some ⟨b, 0, none⟩)) w := by
  go_simp
theorem rs_f3 (b : Nat) (w : World) : (Instr.fieldAt 51 (.pointer (some ⟨b, 0, none⟩)) 3).run Try.prog w = .ok (.pointer (some ⟨b, 3, none⟩)) w := by
  go_simp
theorem rs_cut {g n c i : Nat} (hi : (i : Int) ≤ n) (hc : (n : Int) ≤ c) (hm : c ≤ 9223372036854775807) (w : World) : (Instr.sliceAt 27 (.slice (some ⟨g, 0, none⟩) n c) none (some (.int .i64 (i : Int))) none).run Try.prog w = .ok (.slice (some ⟨g, 0, none⟩) i c) w := by
  have h2 : (i : Int) ≤ c := by omega
  go_simp

set_option maxHeartbeats 16000000 in
theorem l7Grieving_any {w : World} {o r m : Value} {ms : List MO} {G : Gr} (h : GraphAt w o r m ms G) (hok : gOk G = true) {ps : List Nat} (hz : IsG G ps) :
    Calls Try.prog 39 #[gv o r m G.next G.seed] w fun e w' => ∃ v, e = .returned v ∧ Own w' w.heap.size v (idsG G.objs ps) ∧ Below w.heap.size w w' := by
  obtain ⟨f, hf⟩ : ∃ f : Nat → Bool, ∀ p, f p = true ↔ Grv G p := by
    classical
    exact ⟨fun p => decide (Grv G p), fun p => by simp⟩
  have hps : ps = sortG G.objs f G.objs.length := isG_unique hz (isG_sort hok fun p _ => hf p)
  obtain ⟨a1, n1, c1, a2, n2, c2, a3, n3, c3, e1, e2, e3⟩ := graphAt_slices h
  subst e1 e2 e3
  obtain ⟨ao, co, eo, _⟩ := h.2.1.1
  injection eo with e1 e2 e3
  subst e1 e2 e3
  obtain ⟨ys, hy⟩ := isR_ex G
  have B : Below w.heap.size w (w.alloc (gb (.slice a1 ms.length c1) (.slice a2 n2 c2) (.slice a3 n3 c3) G.next G.seed)) := (Below.refl _ w).alloc (Nat.le_refl _) _
  have T := five_new w 32 (.slice a1 ms.length c1) (.slice a2 n2 c2) (.slice a3 n3 c3) (.int .i64 G.next) (.int .i64 G.seed)
  have L7 := l7Reached_any (graphAt_below h B) hok hy
  have hlen := graphAt_len h
  have hms : ms.length ≤ 200 := by rw [hlen]; exact (gOk_len hok).1
  have hyl : ys.length ≤ 200 := Nat.le_trans (isR_len hy) (gOk_len hok).1
  have HG : Hid _ := h
  have HOK : Hid _ := hok
  have HF : Hid _ := hf
  have HPS : Hid _ := hps
  have HY : Hid _ := hy
  have HB : Hid _ := B
  have HT : Hid _ := T
  have HLEN : Hid _ := hlen
  clear h hok hf hps hy B T hlen hz
  go_enter Try.func39, Try.ntmps39
  go_wp2_with fail
  generalize hX : (w.alloc (gb (.slice a1 ms.length c1) (.slice a2 n2 c2) (.slice a3 n3 c3) G.next G.seed)) = X at *
  clear hX
  refine L7.mono ?_
  rintro e w1 ⟨v1, rfl, O1, b1⟩
  obtain ⟨ra, rc, hrv⟩ : ∃ a c, v1 = .slice a ys.length c := by
    obtain ⟨a, c, e, _⟩ := own_ints O1
    exact ⟨a, c, e⟩
  subst hrv
  have B1 := HB.out.trans (b1.mono HB.out.size)
  have T1 := five_below HT.out b1
  have N2 : Below w1.heap.size w1 ((w1.alloc (.cells #[] 2)).alloc (.cells #[] 2)) := ((Below.refl _ _).alloc (Nat.le_refl _) _).alloc (by simp) _
  have HR2 : Hid _ := own_ints (own_below O1 N2)
  have HB2 : Hid _ := B1.trans (N2.mono B1.size)
  have HT2 : Hid _ := five_below T1 N2
  have HO4 : Hid (Own ((w1.alloc (.cells #[] 2)).alloc (.cells #[] 2)) w.heap.size (.slice (some ⟨w1.heap.size, 0, none⟩) 0 0) []) := ⟨rfl, .inr ⟨w1.heap.size, 0, #[], rfl, B1.size, (Below.heap_alloc _ _ _ (by simp)).trans (heap_alloc_new w1 _), Nat.le_refl _, by decide, rfl, rfl⟩⟩
  have HO5 : Hid (Own ((w1.alloc (.cells #[] 2)).alloc (.cells #[] 2)) w.heap.size (.slice (some ⟨w1.heap.size + 1, 0, none⟩) 0 0) []) := ⟨rfl, .inr ⟨w1.heap.size + 1, 0, #[], rfl, Nat.le_succ_of_le B1.size, at_newS (by simp), Nat.le_refl _, by decide, rfl, rfl⟩⟩
  clear L7 HB HT B1 T1 N2 O1 b1
  go_wp2_with fail
  generalize hX2 : ((w1.alloc (.cells #[] 2)).alloc (.cells #[] 2)) = X2 at *
  clear hX2
  go_loopw [4, 5, 6] (fun v u p wr => ∃ (k : Nat) (g4 c4 g5 c5 : Nat), k ≤ ms.length ∧ p = .int .i64 k ∧ v = .slice (some ⟨g4, 0, none⟩) (sortG G.objs f k).length c4 ∧ u = .slice (some ⟨g5, 0, none⟩) (sortG G.objs f k).length c5 ∧ Own wr w.heap.size (.slice (some ⟨g4, 0, none⟩) (sortG G.objs f k).length c4) (idsG G.objs (sortG G.objs f k)) ∧ Own wr w.heap.size (.slice (some ⟨g5, 0, none⟩) (sortG G.objs f k).length c5) (hshG G.objs (sortG G.objs f k)) ∧ Below X2.heap.size X2 wr) (fun _ _ p _ => ms.length - (intOf p).toNat)
  case atStart => exact ⟨0, _, _, _, _, Nat.zero_le _, rfl, rfl, rfl, HO4.out, HO5.out, Below.refl _ _⟩
  case round =>
    clear HO4 HO5
    obtain ⟨k, g4, c4, g5, c5, hk, rfl, rfl, rfl, hO4, hO5, hB⟩ := hrel
    have HO4 : Hid _ := hO4
    have HO5 : Hid _ := hO5
    have HBX : Hid _ := hB
    obtain ⟨q0, _⟩ := five_cells (five_below HT2.out hB)
    by_cases hlt : k < ms.length
    · obtain ⟨ao, co, eo, _, _, _, hco⟩ := orowAt_below HG.out.2.1.1 (HB2.out.trans (hB.mono HB2.out.size))
      injection eo with e1 e2 e3
      subst e1 e3
      obtain ⟨b1, off1, rfl, hb1, hcc1⟩ := hco (by omega)
      obtain ⟨x0, x1, x2, x3, x4⟩ := hcc1 k hlt
      have hmo : (ms.getD k moD).abs = G.objs.getD k obD := graphAt_get HG.out k
      have hsv := refsAt_below (HG.out.2.1.2 _ (mem_getD hlt)) (HB2.out.trans (hB.mono HB2.out.size))
      obtain ⟨sa, sc, hsl, _⟩ := id hsv
      have hkG : k < G.objs.length := by rw [← HLEN.out]; exact hlt
      have hIdM : ∀ q, q < G.objs.length → ((G.objs.getD q obD).id ∈ ys ↔ Rch G q) := fun q hq => by
        rw [isR_mem HY.out]
        constructor
        · rintro ⟨p, hp, e⟩
          rw [rise_inj (gOk_rise HOK.out) (rch_lt hp) hq e] at hp
          exact hp
        · intro hp; exact ⟨q, hp, rfl⟩
      have HKEY : Hid ((ms.getD k moD).fmt = 2 → 0 < (ms.getD k moD).slots.length) := fun e => by
        have h1 := (right_key HOK.out hkG (by rw [← hmo]; exact e)).1
        rw [← hmo] at h1
        exact h1
      have HIN : Hid ((ms.getD k moD).id ∈ ys ↔ Rch G k) := by
        have := hIdM k hkG
        rw [← hmo] at this
        exact this
      have HFM : Hid ((G.objs.getD k obD).fmt = (ms.getD k moD).fmt) := by show _ = _; rw [← hmo]; rfl
      have HHS : Hid ((G.objs.getD k obD).hash = (ms.getD k moD).hash) := by show _ = _; rw [← hmo]; rfl
      have HID : Hid ((G.objs.getD k obD).id = (ms.getD k moD).id) := by show _ = _; rw [← hmo]; rfl
      have HKX : Hid ((ms.getD k moD).fmt = 2 → ((ms.getD k moD).slots.getD 0 refD).1 = 2 → ∃ q, awt G.objs (G.objs.getD k obD) = some q ∧ (((ms.getD k moD).slots.getD 0 refD).2 ∈ ys ↔ Rch G q)) := fun e1 e2 => by
        have hmm := (right_key HOK.out hkG (by rw [← hmo]; exact e1)).2
        have hl := right_ref HOK.out (.inr ⟨k, hkG, hmm⟩) (by rw [← hmo]; exact e2)
        rw [← hmo] at hl
        refine ⟨ledP G.objs ((ms.getD k moD).slots.getD 0 refD), ?_, ?_⟩
        · unfold awt
          rw [← hmo]
          exact if_pos ⟨e1, hl.1⟩
        · have := hIdM _ (ledP_lt hl.1)
          rw [hl.2] at this
          exact this
      have HKN : Hid (¬ ((ms.getD k moD).slots.getD 0 refD).1 = 2 → awt G.objs (G.objs.getD k obD) = none) := fun e => by
        unfold awt
        rw [if_neg]
        rintro ⟨_, h2⟩
        rw [← hmo] at h2
        exact e (led_two h2)
      clear hmo hco hcc1 hIdM
      generalize ms.getD k moD = mo at *
      obtain ⟨mi, mc, mf, mh, msv, msl⟩ := mo
      simp only at x0 x1 x2 x3 x4 hsl hsv HKEY HIN HFM HHS HID HKX HKN
      subst hsl
      have BY : Below wr.heap.size wr (wr.alloc (ob ⟨mi, mc, mf, mh, .slice sa msl.length sc, msl⟩)) := (Below.refl _ _).alloc (Nat.le_refl _) _
      have TY := five_new wr 51 (.int .i64 mi) (.int .i64 mc) (.int .i64 mf) (.int .i64 mh) (.slice sa msl.length sc)
      obtain ⟨t0, t1, t2, t3, t4, _⟩ := five_cells TY
      have HTY : Hid _ := TY
      have HBY : Hid (Below X2.heap.size X2 (wr.alloc (ob ⟨mi, mc, mf, mh, .slice sa msl.length sc, msl⟩))) := hB.trans (BY.mono hB.size)
      have HRY : Hid _ := intsAt_below HR2.out HBY.out
      have HY4 : Hid _ := own_below hO4 BY
      have HY5 : Hid _ := own_below hO5 BY
      have HNO : Hid (f k = false → sortG G.objs f (k + 1) = sortG G.objs f k) := fun e => by
        show (if f k = true then _ else _) = _
        rw [e]
        rfl
      have HYES : Hid (f k = true → sortG G.objs f (k + 1) = insG G.objs k (sortG G.objs f k)) := fun e => by
        show (if f k = true then _ else _) = _
        rw [if_pos e]
      have hsn := len_sortG G.objs f k
      have HFK : Hid _ := HF.out k
      have HSVY : Hid _ := refsAt_below hsv BY
      clear hO4 hO5 hB hsv BY TY e2 hkG
      obtain ⟨ss, hss⟩ : ∃ ss, sortG G.objs f k = ss := ⟨_, rfl⟩
      rw [hss] at hsn
      simp only [hss] at HO4 HO5 HY4 HY5 HNO HYES ⊢
      have HSS : Hid _ := hss
      clear hss
      have HSKIP : Hid (f k = false → ∃ (k' g4' c4' g5' c5' : Nat), k' ≤ ms.length ∧ Value.int .i64 ((k : Int) + 1) = .int .i64 k' ∧ Value.slice (some ⟨g4, 0, none⟩) ss.length c4 = .slice (some ⟨g4', 0, none⟩) (sortG G.objs f k').length c4' ∧ Value.slice (some ⟨g5, 0, none⟩) ss.length c5 = .slice (some ⟨g5', 0, none⟩) (sortG G.objs f k').length c5' ∧ Own (wr.alloc (ob ⟨mi, mc, mf, mh, .slice sa msl.length sc, msl⟩)) w.heap.size (.slice (some ⟨g4', 0, none⟩) (sortG G.objs f k').length c4') (idsG G.objs (sortG G.objs f k')) ∧ Own (wr.alloc (ob ⟨mi, mc, mf, mh, .slice sa msl.length sc, msl⟩)) w.heap.size (.slice (some ⟨g5', 0, none⟩) (sortG G.objs f k').length c5') (hshG G.objs (sortG G.objs f k')) ∧ Below X2.heap.size X2 (wr.alloc (ob ⟨mi, mc, mf, mh, .slice sa msl.length sc, msl⟩))) := fun e => ⟨k + 1, g4, c4, g5, c5, by omega, by simp, by rw [HNO.out e], by rw [HNO.out e], by rw [HNO.out e]; exact HY4.out, by rw [HNO.out e]; exact HY5.out, HBY.out⟩
      by_cases hf2 : mf = 2
      · subst hf2
        by_cases hi1 : mi ∈ ys
        · have HS1 := l1Has_any HRY.out (by omega) mi
          rw [decide_eq_true hi1] at HS1
          have h0 := HKEY.out rfl
          obtain ⟨a', cap', e, _, _, _, hc⟩ := id HSVY.out
          injection e with e1 e2 e3
          subst e1 e3
          obtain ⟨b0, off0, rfl, hb0, hcc0⟩ := hc h0
          obtain ⟨r0, r1⟩ := hcc0 0 h0
          rw [show off0 + 0 * 2 = off0 by omega] at r0 r1
          clear hc hcc0 e2
          have h1n : (1 : Int) ≤ (msl.length : Int) := by omega
          obtain ⟨e0, he0⟩ : ∃ e0, msl.getD 0 refD = e0 := ⟨_, rfl⟩
          rw [he0] at r0 r1
          rw [he0] at HKX HKN
          obtain ⟨k0, nk0⟩ := e0
          simp only at r0 r1 HKX HKN
          by_cases hk2 : k0 = 2
          · subst hk2
            obtain ⟨qq, haw, hqq⟩ := HKX.out (by trivial) (by trivial)
            have HS2 := l1Has_any HRY.out (by omega) nk0
            by_cases hi2 : nk0 ∈ ys
            · rw [decide_eq_true hi2] at HS2
              have hfk : f k = false := by
                cases e : f k
                · rfl
                · obtain ⟨_, _, q', h1, h2⟩ := HFK.out.1 e
                  rw [haw] at h1
                  injection h1 with h1
                  exact absurd (hqq.1 hi2) (by rw [h1]; exact h2)
              have HX : Hid _ := HSKIP.out hfk
              clear HSKIP HNO HYES HKX HKN HIN hqq haw hfk he0
              go_wp2_with (first | (have hh := HS1; clear hh; go_at_call 62; refine HS1.mono ?_; clear HS1; rintro e w4 ⟨rfl, hw4⟩; rw [hw4]; clear hw4) | (go_at_call 62; refine HS2.mono ?_; clear HS2; rintro e w4 ⟨rfl, hw4⟩; rw [hw4]; clear hw4))
              exact ⟨HX.out, by simp [intOf]; omega⟩
            · rw [decide_eq_false hi2] at HS2
              have hfk : f k = true := HFK.out.2 ⟨HIN.out.1 hi1, HFM.out, qq, haw, fun e => hi2 (hqq.2 e)⟩
              have HX : Hid _ := HYES.out hfk
              clear HSKIP HNO HYES HKX HKN HIN hqq haw hfk he0
              go_wp2_with (first | (have hh := HS1; clear hh; go_at_call 62; refine HS1.mono ?_; clear HS1; rintro e w4 ⟨rfl, hw4⟩; rw [hw4]; clear hw4) | (go_at_call 62; refine HS2.mono ?_; clear HS2; rintro e w4 ⟨rfl, hw4⟩; rw [hw4]; clear hw4))
              generalize hYY : (wr.alloc (ob ⟨mi, mc, 2, mh, .slice (some ⟨b0, off0, none⟩) msl.length sc, msl⟩)) = Y at *
              generalize hP7 : wr.heap.size = P7 at *
              clear hYY t0 t1 t2 t4 q0 x0 x1 x2 x3 x4
              obtain ⟨a5, cp5, e5, hlc5, hcm5, _, hc5⟩ := own_ints HY5.out
              rw [List.length_map] at e5 hlc5
              injection e5 with e51 e52 e53
              subst e51 e53
              obtain ⟨a4, cp4, e4, hlc4, hcm4, _, _⟩ := own_ints HY4.out
              rw [List.length_map] at e4 hlc4
              injection e4 with e41 e42 e43
              subst e41 e43
              have hcm5' : c5 ≤ 9223372036854775807 := hcm5
              have hcm4' : c4 ≤ 9223372036854775807 := hcm4
              have HC5 : Hid _ := hc5
              clear hc5 e52 e42
              go_loopw [8] (fun p wz => ∃ i : Nat, i ≤ ss.length ∧ p = .int .i64 i ∧ (∀ j, j < i → (hshG G.objs ss).getD j 0 ≤ mh) ∧ ∃ q, wz = Y.drewN q) (fun p _ => ss.length - (intOf p).toNat)
              case atStart => exact ⟨0, Nat.zero_le _, rfl, fun j hj => by omega, 0, rfl⟩
              case round =>
                obtain ⟨i, hi, rfl, hall, q, hwz⟩ := hrel
                subst hwz
                by_cases hgo : i < ss.length ∧ (hshG G.objs ss).getD i 0 ≤ mh
                · obtain ⟨hil, hle⟩ := hgo
                  obtain ⟨b5, o5, e6, _, hcc5⟩ := HC5.out (by rw [List.length_map]; omega)
                  injection e6 with e6
                  injection e6 with e61 e62
                  subst e61 e62
                  have cc := hcc5 i (by rw [List.length_map]; exact hil)
                  rw [Nat.zero_add] at cc
                  have HV : Hid (∀ j, j < i + 1 → (hshG G.objs ss).getD j 0 ≤ mh) := fun j hj => by
                    by_cases e : j = i
                    · rw [e]; exact hle
                    · exact hall j (by omega)
                  clear hcc5 hall
                  generalize (hshG G.objs ss).getD i 0 = hh at *
                  have hil' : (i : Int) < (ss.length : Int) := by omega
                  go_wp2_with fail
                  go_quiet (fail)
                  go_wp2
                  exact ⟨⟨i + 1, by omega, by go_num, HV, _, rfl⟩, by simp [intOf]; omega⟩
                · by_cases hcase : i < ss.length
                  · have hle : ¬ (hshG G.objs ss).getD i 0 ≤ mh := fun e => hgo ⟨hcase, e⟩
                    obtain ⟨b5, o5, e6, _, hcc5⟩ := HC5.out (by rw [List.length_map]; omega)
                    injection e6 with e6
                    injection e6 with e61 e62
                    subst e61 e62
                    have cc := hcc5 i (by rw [List.length_map]; exact hcase)
                    rw [Nat.zero_add] at cc
                    have HNLE : Hid _ := hle
                    clear hcc5
                    generalize hhx : (hshG G.objs ss).getD i 0 = hh at *
                    have hil' : (i : Int) < (ss.length : Int) := by omega
                    go_wp2_with fail
                    go_quiet (fail)
                    have HP4 : Hid (∀ n o c, (o = i ∧ c = c4 - i ∨ i = ss.length ∧ c4 = i ∧ o = 0 ∧ c = 0) → IntsAt (Y.drewN n) (.slice (some ⟨g4, o, none⟩) (ss.length - i) c) ((idsG G.objs ss).drop i)) := by
                      intro n o c h
                      rcases h with ⟨rfl, rfl⟩ | ⟨h1, h2, rfl, rfl⟩
                      · exact ints_drop (w := Y) (b := g4) (off := 0) (n := ss.length) (cap := c4) (own_ints HY4.out) hi (fun h => by rw [Nat.zero_add]) (fun h => by cases h)
                      · have := ints_drop (w := Y) (b := g4) (off := 0) (n := ss.length) (cap := c4) (k := i) (own_ints HY4.out) hi (a := some ⟨g4, 0, none⟩) (fun h => by omega) (fun h => by cases h)
                        rw [show c4 - i = 0 by omega] at this
                        exact this
                    have HP5 : Hid (∀ W o c, Below Y.heap.size Y W → (o = i ∧ c = c5 - i ∨ i = ss.length ∧ c5 = i ∧ o = 0 ∧ c = 0) → IntsAt W (.slice (some ⟨g5, o, none⟩) (ss.length - i) c) ((hshG G.objs ss).drop i)) := by
                      intro W o c hW h
                      refine intsAt_below ?_ hW
                      rcases h with ⟨rfl, rfl⟩ | ⟨h1, h2, rfl, rfl⟩
                      · exact ints_drop (w := Y) (b := g5) (off := 0) (n := ss.length) (cap := c5) (own_ints HY5.out) hi (fun h => by rw [Nat.zero_add]) (fun h => by cases h)
                      · have := ints_drop (w := Y) (b := g5) (off := 0) (n := ss.length) (cap := c5) (k := i) (own_ints HY5.out) hi (a := some ⟨g5, 0, none⟩) (fun h => by omega) (fun h => by cases h)
                        rw [show c5 - i = 0 by omega] at this
                        exact this
                    have HQ4 : Hid (∀ n, IntsAt (Y.drewN n) (.slice (if c4 = i then (some ⟨g4, 0, none⟩ : Option Addr) else some ⟨g4, i, none⟩) (ss.length - i) (c4 - i)) ((idsG G.objs ss).drop i)) := fun n => ints_drop (w := Y) (b := g4) (off := 0) (n := ss.length) (cap := c4) (own_ints HY4.out) hi (fun h => by rw [if_neg (by omega), Nat.zero_add]) (fun h => by split at h <;> cases h)
                    have HQ5 : Hid (∀ W, Below Y.heap.size Y W → IntsAt W (.slice (if c5 = i then (some ⟨g5, 0, none⟩ : Option Addr) else some ⟨g5, i, none⟩) (ss.length - i) (c5 - i)) ((hshG G.objs ss).drop i)) := fun W hW => intsAt_below (ints_drop (w := Y) (b := g5) (off := 0) (n := ss.length) (cap := c5) (own_ints HY5.out) hi (fun h => by rw [if_neg (by omega), Nat.zero_add]) (fun h => by split at h <;> cases h)) hW
                    go_wp2_with (first
                      | (refine wpList_copiedN (n := ss.length - i) (xs := (idsG G.objs ss).drop i) ?_ (by omega) rfl (.tmp 69) (.tmp 72) rfl rfl rfl ?_; (first | exact HQ4.out _ | exact HP4.out _ _ _ (Or.inl ⟨rfl, rfl⟩) | exact HP4.out _ _ _ (Or.inr ⟨by omega, by omega, rfl, rfl⟩)); intro ga ca wa hga hOa hBa; (try generalize (if c4 = i then (some ⟨g4, 0, none⟩ : Option Addr) else some ⟨g4, i, none⟩) = z4); have BYa : Below Y.heap.size Y wa := ⟨hBa.os, hBa.tape, hBa.output, hBa.size, hBa.block⟩; have HBYa : Hid _ := BYa; have HRa : Hid (IntsAt wa (.slice (some ⟨ga, 0, none⟩) (ss.length - i) ca) ((idsG G.objs ss).drop i)) := own_ints (own_row hOa (by simp)); clear hOa hBa hga BYa)
                      | (refine wpList_copiedN (n := ss.length - i) (xs := (hshG G.objs ss).drop i) ?_ (by omega) rfl (.tmp 74) (.tmp 77) rfl rfl rfl ?_; (first | exact HQ5.out _ HBYa.out | exact HP5.out _ _ _ HBYa.out (Or.inl ⟨rfl, rfl⟩) | exact HP5.out _ _ _ HBYa.out (Or.inr ⟨by omega, by omega, rfl, rfl⟩)); intro gb' cb wb hgb hOb hBb; (try generalize (if c5 = i then (some ⟨g5, 0, none⟩ : Option Addr) else some ⟨g5, i, none⟩) = z5); have HBYb : Hid (Below Y.heap.size Y wb) := HBYa.out.trans (hBb.mono HBYa.out.size); have HRa2 : Hid _ := intsAt_below HRa.out hBb; have HRb : Hid (IntsAt wb (.slice (some ⟨gb', 0, none⟩) (ss.length - i) cb) ((hshG G.objs ss).drop i)) := own_ints (own_row hOb (by simp)); clear hOb hBb hgb))
                    clear HQ4 HQ5 HP4 HP5
                    have TYb := five_below HTY.out HBYb.out
                    have l7 := lt_of_block TYb
                    have f0 := (five_cells TYb).1
                    have szb : w.heap.size ≤ wb.heap.size := Nat.le_trans HB2.out.size (Nat.le_trans HBY.out.size HBYb.out.size)
                    have hT4 := intsAt_below (ints_take (own_ints HY4.out) hi) HBYb.out
                    go_cut [4] from 15 to 100 (fun v wx => ∃ g c : Nat, v = .slice (some ⟨g, 0, none⟩) (ss.length + 1) c ∧ Hid (Own wx w.heap.size (.slice (some ⟨g, 0, none⟩) (ss.length + 1) c) ((idsG G.objs ss).take i ++ mi :: (idsG G.objs ss).drop i)) ∧ Hid (Below wb.heap.size wb wx))
                    case first =>
                      refine regPut (s0 := 79) (ls := 4) (rs := 9) (P7 := P7) (fd := 0) (kk := i) (m := ss.length - i) (x := mi) (T := (idsG G.objs ss).take i) (D := (idsG G.objs ss).drop i) (lv := .slice (some ⟨g4, 0, none⟩) ss.length c4) (pv := .slice (some ⟨g4, 0, none⟩) i c4) (rv := .slice (some ⟨ga, 0, none⟩) (ss.length - i) ca) (a := some ⟨g4, 0, none⟩) (cap := c4) (gr := ga) (cr := ca) (by simp) ?_ rfl ⟨_, rfl, rfl, rfl, by simp [Region.binds]⟩ ⟨_, rfl, rfl, rfl, by simp [Region.binds]⟩ ⟨_, rfl, rfl, rfl, by simp [Region.binds]⟩ ⟨_, rfl, rfl, rfl, by simp [Region.binds]⟩ ⟨_, rfl, rfl, rfl, by simp [Region.binds]⟩ ⟨_, rfl, rfl, rfl, by simp [Region.binds]⟩ ⟨_, rfl, rfl, rfl, by simp [Region.binds]⟩ ⟨_, rfl, rfl, rfl, by simp [Region.binds]⟩ ⟨_, rfl, rfl, rfl, by simp [Region.binds]⟩ ⟨_, rfl, rfl, rfl, by simp [Region.binds]⟩ ⟨_, rfl, rfl, rfl, by simp [Region.binds]⟩ ⟨_, rfl, rfl, rfl, by simp [Region.binds]⟩ (by decide) (by decide) (by decide) (by decide) (by decide) (by decide) (by simp) rfl rfl rfl rfl (rs_cut (by omega) (by omega) (by omega)) (rs_f0 P7) l7 f0 rfl hT4 rfl HRa2.out (by omega) (by omega) ?_
                      · intro k' o' ho' e' he'
                        have hk' : k' < 12 := (Array.getElem?_eq_some_iff.1 ho').1
                        rcases (show k' = 0 ∨ k' = 1 ∨ k' = 2 ∨ k' = 3 ∨ k' = 4 ∨ k' = 5 ∨ k' = 6 ∨ k' = 7 ∨ k' = 8 ∨ k' = 9 ∨ k' = 10 ∨ k' = 11 by omega) with rfl | rfl | rfl | rfl | rfl | rfl | rfl | rfl | rfl | rfl | rfl | rfl
                        all_goals
                          injection ho' with ho'
                          subst ho'
                          simp at he'
                          try omega
                        all_goals
                          first
                            | (subst he'; decide)
                            | (rcases he' with rfl | rfl <;> decide)
                            | (rcases he' with rfl | rfl | rfl <;> decide)
                            | (rcases he' with rfl | rfl | rfl | rfl <;> decide)
                            | (rcases he' with rfl | rfl | rfl | rfl | rfl <;> decide)
                            | (rcases he' with rfl | rfl | rfl | rfl | rfl | rfl <;> decide)
                            | (rcases he' with rfl | rfl | rfl | rfl | rfl | rfl | rfl <;> decide)
                            | (rcases he' with rfl | rfl | rfl | rfl | rfl | rfl | rfl | rfl <;> decide)
                            | (rcases he' with rfl | rfl | rfl | rfl | rfl | rfl | rfl | rfl | rfl <;> decide)
                            | (rcases he' with rfl | rfl | rfl | rfl | rfl | rfl | rfl | rfl | rfl | rfl <;> decide)
                            | (rcases he' with rfl | rfl | rfl | rfl | rfl | rfl | rfl | rfl | rfl | rfl | rfl <;> decide)
                            | (rcases he' with rfl | rfl | rfl | rfl | rfl | rfl | rfl | rfl | rfl | rfl | rfl | rfl <;> decide)
                            | (rcases he' with rfl | rfl | rfl | rfl | rfl | rfl | rfl | rfl | rfl | rfl | rfl | rfl | rfl <;> decide)
                            | (rcases he' with rfl | rfl | rfl | rfl | rfl | rfl | rfl | rfl | rfl | rfl | rfl | rfl | rfl | rfl <;> decide)
                            | (rcases he' with rfl | rfl | rfl | rfl | rfl | rfl | rfl | rfl | rfl | rfl | rfl | rfl | rfl | rfl | rfl <;> decide)
                            | (rcases he' with rfl | rfl | rfl | rfl | rfl | rfl | rfl | rfl | rfl | rfl | rfl | rfl | rfl | rfl | rfl | rfl <;> decide)
                            | (rcases he' with rfl | rfl | rfl | rfl | rfl | rfl | rfl | rfl | rfl | rfl | rfl | rfl | rfl | rfl | rfl | rfl | rfl <;> decide)
                      · rintro u w' v hu hrow hb
                        obtain ⟨gq, cq, hv⟩ : ∃ g c, v = .slice (some ⟨g, 0, none⟩) (ss.length + 1) c := by
                          obtain ⟨_, ⟨_, q0⟩ | ⟨g, c', cur, q1, _⟩⟩ := id hrow
                          · omega
                          · exact ⟨g, c', by rw [q1]; congr 1; omega⟩
                        subst hv
                        have ow := own_put (R := (idsG G.objs ss).take i ++ mi :: (idsG G.objs ss).drop i) rfl (by simp; omega) (row_base hrow szb)
                        rename_i J K' HJ HK
                        exact HK _ _ (Met.intro (HJ _ _ ⟨u 4, _, _, _, _, _, _, _, _, _, _, _, _, _, _, _, _, _, _, _, _, _, _, _, _, _, _, _, _, _, _, _, _, _, _, _, _, _, _, _, _, _, _, _, _, _, _, _, _, _, _, _, _, _, _, _, _, _, _, _, _, _, _, _, _, _, _, _, _, _, _, _, _, _, _, _, _, _, _, _, _, _, _, _, _, _, _, ⟨gq, cq, hu, ow, hb⟩, rfl⟩))
                    obtain ⟨g6, c6, rfl, HO6, HB6⟩ := hcut
                    obtain ⟨wd, hwd⟩ : ∃ wd, wd = wc := ⟨_, rfl⟩
                    subst hwd
                    have BYd := HBYb.out.trans (HB6.out.mono HBYb.out.size)
                    have TYd := five_below HTY.out BYd
                    have l7 := lt_of_block TYd
                    have f3 := (five_cells TYd).2.2.2.1
                    have szd : w.heap.size ≤ wd.heap.size := Nat.le_trans szb HB6.out.size
                    have hT5 := intsAt_below (ints_take (own_ints HY5.out) hi) BYd
                    have hD5 := intsAt_below HRb.out HB6.out
                    have HBXd : Hid (Below X2.heap.size X2 wd) := HBY.out.trans (BYd.mono HBY.out.size)
                    clear f0
                    go_wp2_with fail
                    refine regPut (s0 := 90) (ls := 5) (rs := 10) (P7 := P7) (fd := 3) (kk := i) (m := ss.length - i) (x := mh) (T := (hshG G.objs ss).take i) (D := (hshG G.objs ss).drop i) (lv := .slice (some ⟨g5, 0, none⟩) ss.length c5) (pv := .slice (some ⟨g5, 0, none⟩) i c5) (rv := .slice (some ⟨gb', 0, none⟩) (ss.length - i) cb) (a := some ⟨g5, 0, none⟩) (cap := c5) (gr := gb') (cr := cb) (by simp) ?_ rfl ⟨_, rfl, rfl, rfl, by simp [Region.binds]⟩ ⟨_, rfl, rfl, rfl, by simp [Region.binds]⟩ ⟨_, rfl, rfl, rfl, by simp [Region.binds]⟩ ⟨_, rfl, rfl, rfl, by simp [Region.binds]⟩ ⟨_, rfl, rfl, rfl, by simp [Region.binds]⟩ ⟨_, rfl, rfl, rfl, by simp [Region.binds]⟩ ⟨_, rfl, rfl, rfl, by simp [Region.binds]⟩ ⟨_, rfl, rfl, rfl, by simp [Region.binds]⟩ ⟨_, rfl, rfl, rfl, by simp [Region.binds]⟩ ⟨_, rfl, rfl, rfl, by simp [Region.binds]⟩ ⟨_, rfl, rfl, rfl, by simp [Region.binds]⟩ ⟨_, rfl, rfl, rfl, by simp [Region.binds]⟩ (by decide) (by decide) (by decide) (by decide) (by decide) (by decide) (by simp) rfl rfl rfl rfl (rs_cut (by omega) (by omega) (by omega)) (rs_f3 P7) l7 f3 rfl hT5 rfl hD5 (by omega) (by omega) ?_
                    · intro k' o' ho' e' he'
                      have hk' : k' < 12 := (Array.getElem?_eq_some_iff.1 ho').1
                      rcases (show k' = 0 ∨ k' = 1 ∨ k' = 2 ∨ k' = 3 ∨ k' = 4 ∨ k' = 5 ∨ k' = 6 ∨ k' = 7 ∨ k' = 8 ∨ k' = 9 ∨ k' = 10 ∨ k' = 11 by omega) with rfl | rfl | rfl | rfl | rfl | rfl | rfl | rfl | rfl | rfl | rfl | rfl
                      all_goals
                        injection ho' with ho'
                        subst ho'
                        simp at he'
                        try omega
                      all_goals
                        first
                          | (subst he'; decide)
                          | (rcases he' with rfl | rfl <;> decide)
                          | (rcases he' with rfl | rfl | rfl <;> decide)
                          | (rcases he' with rfl | rfl | rfl | rfl <;> decide)
                          | (rcases he' with rfl | rfl | rfl | rfl | rfl <;> decide)
                          | (rcases he' with rfl | rfl | rfl | rfl | rfl | rfl <;> decide)
                          | (rcases he' with rfl | rfl | rfl | rfl | rfl | rfl | rfl <;> decide)
                          | (rcases he' with rfl | rfl | rfl | rfl | rfl | rfl | rfl | rfl <;> decide)
                          | (rcases he' with rfl | rfl | rfl | rfl | rfl | rfl | rfl | rfl | rfl <;> decide)
                          | (rcases he' with rfl | rfl | rfl | rfl | rfl | rfl | rfl | rfl | rfl | rfl <;> decide)
                          | (rcases he' with rfl | rfl | rfl | rfl | rfl | rfl | rfl | rfl | rfl | rfl | rfl <;> decide)
                          | (rcases he' with rfl | rfl | rfl | rfl | rfl | rfl | rfl | rfl | rfl | rfl | rfl | rfl <;> decide)
                          | (rcases he' with rfl | rfl | rfl | rfl | rfl | rfl | rfl | rfl | rfl | rfl | rfl | rfl | rfl <;> decide)
                          | (rcases he' with rfl | rfl | rfl | rfl | rfl | rfl | rfl | rfl | rfl | rfl | rfl | rfl | rfl | rfl <;> decide)
                          | (rcases he' with rfl | rfl | rfl | rfl | rfl | rfl | rfl | rfl | rfl | rfl | rfl | rfl | rfl | rfl | rfl <;> decide)
                          | (rcases he' with rfl | rfl | rfl | rfl | rfl | rfl | rfl | rfl | rfl | rfl | rfl | rfl | rfl | rfl | rfl | rfl <;> decide)
                          | (rcases he' with rfl | rfl | rfl | rfl | rfl | rfl | rfl | rfl | rfl | rfl | rfl | rfl | rfl | rfl | rfl | rfl | rfl <;> decide)
                    rintro u w' v hu hrow hb
                    obtain ⟨gq, cq, hv⟩ : ∃ g c, v = .slice (some ⟨g, 0, none⟩) (ss.length + 1) c := by
                      obtain ⟨_, ⟨_, q0⟩ | ⟨g, c', cur, q1, _⟩⟩ := id hrow
                      · omega
                      · exact ⟨g, c', by rw [q1]; congr 1; omega⟩
                    subst hv
                    have ow := own_put (R := (hshG G.objs ss).take i ++ mh :: (hshG G.objs ss).drop i) rfl (by simp; omega) (row_base hrow szd)
                    have HB7 : Hid _ := hb
                    have HO7 : Hid _ := ow
                    clear ow hb hrow
                    simp [ovr, List.range, List.range.loop, hu]
                    have hins := insG_at (os := G.objs) (p := k) hi (fun j hj => by
                          have := hall j hj
                          rw [HHS.out]
                          have e : (hshG G.objs ss).getD j 0 = (G.objs.getD (ss.getD j 0) obD).hash := by
                            rw [List.getD_eq_getElem?_getD, List.getElem?_map, List.getElem?_eq_getElem (show j < ss.length by omega), List.getD_eq_getElem?_getD (l := ss), List.getElem?_eq_getElem (show j < ss.length by omega)]
                            rfl
                          rw [← e]
                          exact this) (fun hjl => by
                          rw [HHS.out]
                          have e : (hshG G.objs ss).getD i 0 = (G.objs.getD (ss.getD i 0) obD).hash := by
                            rw [List.getD_eq_getElem?_getD, List.getElem?_map, List.getElem?_eq_getElem hjl, List.getD_eq_getElem?_getD (l := ss), List.getElem?_eq_getElem hjl]
                            rfl
                          rw [← e]
                          exact (by rw [hhx]; exact HNLE.out))
                    have HST : Hid (∃ (k' g4' c4' g5' c5' : Nat), k' ≤ ms.length ∧ Value.int .i64 ((k : Int) + 1) = .int .i64 k' ∧ Value.slice (some ⟨g6, 0, none⟩) (ss.length + 1) c6 = .slice (some ⟨g4', 0, none⟩) (sortG G.objs f k').length c4' ∧ Value.slice (some ⟨gq, 0, none⟩) (ss.length + 1) cq = .slice (some ⟨g5', 0, none⟩) (sortG G.objs f k').length c5' ∧ Own w' w.heap.size (.slice (some ⟨g4', 0, none⟩) (sortG G.objs f k').length c4') (idsG G.objs (sortG G.objs f k')) ∧ Own w' w.heap.size (.slice (some ⟨g5', 0, none⟩) (sortG G.objs f k').length c5') (hshG G.objs (sortG G.objs f k')) ∧ Below X2.heap.size X2 w') := by
                      have e1 : idsG G.objs (sortG G.objs f (k + 1)) = (idsG G.objs ss).take i ++ mi :: (idsG G.objs ss).drop i := by rw [HX.out, hins, ← HID.out]; simp [idsG]
                      have e2 : hshG G.objs (sortG G.objs f (k + 1)) = (hshG G.objs ss).take i ++ mh :: (hshG G.objs ss).drop i := by rw [HX.out, hins, ← HHS.out]; simp [hshG]
                      have e3 : (sortG G.objs f (k + 1)).length = ss.length + 1 := by rw [HX.out, len_insG]
                      exact ⟨k + 1, g6, c6, gq, cq, by omega, by simp, by rw [e3], by rw [e3], by rw [e3, e1]; exact own_below HO6.out HB7.out, by rw [e3, e2]; exact HO7.out, HBXd.out.trans (HB7.out.mono HBXd.out.size)⟩
                    clear hins
                    go_wp2
                    exact ⟨HST.out, by simp [intOf]; omega⟩
                  · have hdl : decide ((i : Int) < (ss.length : Int)) = false := by rw [decide_eq_false_iff_not]; omega
                    have hnl : ¬ (i : Int) < (ss.length : Int) := by omega
                    go_wp2_with fail
                    go_quiet (fail)
                    have HP4 : Hid (∀ n o c, (o = i ∧ c = c4 - i ∨ i = ss.length ∧ c4 = i ∧ o = 0 ∧ c = 0) → IntsAt (Y.drewN n) (.slice (some ⟨g4, o, none⟩) (ss.length - i) c) ((idsG G.objs ss).drop i)) := by
                      intro n o c h
                      rcases h with ⟨rfl, rfl⟩ | ⟨h1, h2, rfl, rfl⟩
                      · exact ints_drop (w := Y) (b := g4) (off := 0) (n := ss.length) (cap := c4) (own_ints HY4.out) hi (fun h => by rw [Nat.zero_add]) (fun h => by cases h)
                      · have := ints_drop (w := Y) (b := g4) (off := 0) (n := ss.length) (cap := c4) (k := i) (own_ints HY4.out) hi (a := some ⟨g4, 0, none⟩) (fun h => by omega) (fun h => by cases h)
                        rw [show c4 - i = 0 by omega] at this
                        exact this
                    have HP5 : Hid (∀ W o c, Below Y.heap.size Y W → (o = i ∧ c = c5 - i ∨ i = ss.length ∧ c5 = i ∧ o = 0 ∧ c = 0) → IntsAt W (.slice (some ⟨g5, o, none⟩) (ss.length - i) c) ((hshG G.objs ss).drop i)) := by
                      intro W o c hW h
                      refine intsAt_below ?_ hW
                      rcases h with ⟨rfl, rfl⟩ | ⟨h1, h2, rfl, rfl⟩
                      · exact ints_drop (w := Y) (b := g5) (off := 0) (n := ss.length) (cap := c5) (own_ints HY5.out) hi (fun h => by rw [Nat.zero_add]) (fun h => by cases h)
                      · have := ints_drop (w := Y) (b := g5) (off := 0) (n := ss.length) (cap := c5) (k := i) (own_ints HY5.out) hi (a := some ⟨g5, 0, none⟩) (fun h => by omega) (fun h => by cases h)
                        rw [show c5 - i = 0 by omega] at this
                        exact this
                    have HQ4 : Hid (∀ n, IntsAt (Y.drewN n) (.slice (if c4 = i then (some ⟨g4, 0, none⟩ : Option Addr) else some ⟨g4, i, none⟩) (ss.length - i) (c4 - i)) ((idsG G.objs ss).drop i)) := fun n => ints_drop (w := Y) (b := g4) (off := 0) (n := ss.length) (cap := c4) (own_ints HY4.out) hi (fun h => by rw [if_neg (by omega), Nat.zero_add]) (fun h => by split at h <;> cases h)
                    have HQ5 : Hid (∀ W, Below Y.heap.size Y W → IntsAt W (.slice (if c5 = i then (some ⟨g5, 0, none⟩ : Option Addr) else some ⟨g5, i, none⟩) (ss.length - i) (c5 - i)) ((hshG G.objs ss).drop i)) := fun W hW => intsAt_below (ints_drop (w := Y) (b := g5) (off := 0) (n := ss.length) (cap := c5) (own_ints HY5.out) hi (fun h => by rw [if_neg (by omega), Nat.zero_add]) (fun h => by split at h <;> cases h)) hW
                    go_wp2_with (first
                      | (refine wpList_copiedN (n := ss.length - i) (xs := (idsG G.objs ss).drop i) ?_ (by omega) rfl (.tmp 69) (.tmp 72) rfl rfl rfl ?_; (first | exact HQ4.out _ | exact HP4.out _ _ _ (Or.inl ⟨rfl, rfl⟩) | exact HP4.out _ _ _ (Or.inr ⟨by omega, by omega, rfl, rfl⟩)); intro ga ca wa hga hOa hBa; (try generalize (if c4 = i then (some ⟨g4, 0, none⟩ : Option Addr) else some ⟨g4, i, none⟩) = z4); have BYa : Below Y.heap.size Y wa := ⟨hBa.os, hBa.tape, hBa.output, hBa.size, hBa.block⟩; have HBYa : Hid _ := BYa; have HRa : Hid (IntsAt wa (.slice (some ⟨ga, 0, none⟩) (ss.length - i) ca) ((idsG G.objs ss).drop i)) := own_ints (own_row hOa (by simp)); clear hOa hBa hga BYa)
                      | (refine wpList_copiedN (n := ss.length - i) (xs := (hshG G.objs ss).drop i) ?_ (by omega) rfl (.tmp 74) (.tmp 77) rfl rfl rfl ?_; (first | exact HQ5.out _ HBYa.out | exact HP5.out _ _ _ HBYa.out (Or.inl ⟨rfl, rfl⟩) | exact HP5.out _ _ _ HBYa.out (Or.inr ⟨by omega, by omega, rfl, rfl⟩)); intro gb' cb wb hgb hOb hBb; (try generalize (if c5 = i then (some ⟨g5, 0, none⟩ : Option Addr) else some ⟨g5, i, none⟩) = z5); have HBYb : Hid (Below Y.heap.size Y wb) := HBYa.out.trans (hBb.mono HBYa.out.size); have HRa2 : Hid _ := intsAt_below HRa.out hBb; have HRb : Hid (IntsAt wb (.slice (some ⟨gb', 0, none⟩) (ss.length - i) cb) ((hshG G.objs ss).drop i)) := own_ints (own_row hOb (by simp)); clear hOb hBb hgb))
                    clear HQ4 HQ5 HP4 HP5
                    have TYb := five_below HTY.out HBYb.out
                    have l7 := lt_of_block TYb
                    have f0 := (five_cells TYb).1
                    have szb : w.heap.size ≤ wb.heap.size := Nat.le_trans HB2.out.size (Nat.le_trans HBY.out.size HBYb.out.size)
                    have hT4 := intsAt_below (ints_take (own_ints HY4.out) hi) HBYb.out
                    go_cut [4] from 15 to 100 (fun v wx => ∃ g c : Nat, v = .slice (some ⟨g, 0, none⟩) (ss.length + 1) c ∧ Hid (Own wx w.heap.size (.slice (some ⟨g, 0, none⟩) (ss.length + 1) c) ((idsG G.objs ss).take i ++ mi :: (idsG G.objs ss).drop i)) ∧ Hid (Below wb.heap.size wb wx))
                    case first =>
                      refine regPut (s0 := 79) (ls := 4) (rs := 9) (P7 := P7) (fd := 0) (kk := i) (m := ss.length - i) (x := mi) (T := (idsG G.objs ss).take i) (D := (idsG G.objs ss).drop i) (lv := .slice (some ⟨g4, 0, none⟩) ss.length c4) (pv := .slice (some ⟨g4, 0, none⟩) i c4) (rv := .slice (some ⟨ga, 0, none⟩) (ss.length - i) ca) (a := some ⟨g4, 0, none⟩) (cap := c4) (gr := ga) (cr := ca) (by simp) ?_ rfl ⟨_, rfl, rfl, rfl, by simp [Region.binds]⟩ ⟨_, rfl, rfl, rfl, by simp [Region.binds]⟩ ⟨_, rfl, rfl, rfl, by simp [Region.binds]⟩ ⟨_, rfl, rfl, rfl, by simp [Region.binds]⟩ ⟨_, rfl, rfl, rfl, by simp [Region.binds]⟩ ⟨_, rfl, rfl, rfl, by simp [Region.binds]⟩ ⟨_, rfl, rfl, rfl, by simp [Region.binds]⟩ ⟨_, rfl, rfl, rfl, by simp [Region.binds]⟩ ⟨_, rfl, rfl, rfl, by simp [Region.binds]⟩ ⟨_, rfl, rfl, rfl, by simp [Region.binds]⟩ ⟨_, rfl, rfl, rfl, by simp [Region.binds]⟩ ⟨_, rfl, rfl, rfl, by simp [Region.binds]⟩ (by decide) (by decide) (by decide) (by decide) (by decide) (by decide) (by simp) rfl rfl rfl rfl (rs_cut (by omega) (by omega) (by omega)) (rs_f0 P7) l7 f0 rfl hT4 rfl HRa2.out (by omega) (by omega) ?_
                      · intro k' o' ho' e' he'
                        have hk' : k' < 12 := (Array.getElem?_eq_some_iff.1 ho').1
                        rcases (show k' = 0 ∨ k' = 1 ∨ k' = 2 ∨ k' = 3 ∨ k' = 4 ∨ k' = 5 ∨ k' = 6 ∨ k' = 7 ∨ k' = 8 ∨ k' = 9 ∨ k' = 10 ∨ k' = 11 by omega) with rfl | rfl | rfl | rfl | rfl | rfl | rfl | rfl | rfl | rfl | rfl | rfl
                        all_goals
                          injection ho' with ho'
                          subst ho'
                          simp at he'
                          try omega
                        all_goals
                          first
                            | (subst he'; decide)
                            | (rcases he' with rfl | rfl <;> decide)
                            | (rcases he' with rfl | rfl | rfl <;> decide)
                            | (rcases he' with rfl | rfl | rfl | rfl <;> decide)
                            | (rcases he' with rfl | rfl | rfl | rfl | rfl <;> decide)
                            | (rcases he' with rfl | rfl | rfl | rfl | rfl | rfl <;> decide)
                            | (rcases he' with rfl | rfl | rfl | rfl | rfl | rfl | rfl <;> decide)
                            | (rcases he' with rfl | rfl | rfl | rfl | rfl | rfl | rfl | rfl <;> decide)
                            | (rcases he' with rfl | rfl | rfl | rfl | rfl | rfl | rfl | rfl | rfl <;> decide)
                            | (rcases he' with rfl | rfl | rfl | rfl | rfl | rfl | rfl | rfl | rfl | rfl <;> decide)
                            | (rcases he' with rfl | rfl | rfl | rfl | rfl | rfl | rfl | rfl | rfl | rfl | rfl <;> decide)
                            | (rcases he' with rfl | rfl | rfl | rfl | rfl | rfl | rfl | rfl | rfl | rfl | rfl | rfl <;> decide)
                            | (rcases he' with rfl | rfl | rfl | rfl | rfl | rfl | rfl | rfl | rfl | rfl | rfl | rfl | rfl <;> decide)
                            | (rcases he' with rfl | rfl | rfl | rfl | rfl | rfl | rfl | rfl | rfl | rfl | rfl | rfl | rfl | rfl <;> decide)
                            | (rcases he' with rfl | rfl | rfl | rfl | rfl | rfl | rfl | rfl | rfl | rfl | rfl | rfl | rfl | rfl | rfl <;> decide)
                            | (rcases he' with rfl | rfl | rfl | rfl | rfl | rfl | rfl | rfl | rfl | rfl | rfl | rfl | rfl | rfl | rfl | rfl <;> decide)
                            | (rcases he' with rfl | rfl | rfl | rfl | rfl | rfl | rfl | rfl | rfl | rfl | rfl | rfl | rfl | rfl | rfl | rfl | rfl <;> decide)
                      · rintro u w' v hu hrow hb
                        obtain ⟨gq, cq, hv⟩ : ∃ g c, v = .slice (some ⟨g, 0, none⟩) (ss.length + 1) c := by
                          obtain ⟨_, ⟨_, q0⟩ | ⟨g, c', cur, q1, _⟩⟩ := id hrow
                          · omega
                          · exact ⟨g, c', by rw [q1]; congr 1; omega⟩
                        subst hv
                        have ow := own_put (R := (idsG G.objs ss).take i ++ mi :: (idsG G.objs ss).drop i) rfl (by simp; omega) (row_base hrow szb)
                        rename_i J K' HJ HK
                        exact HK _ _ (Met.intro (HJ _ _ ⟨u 4, _, _, _, _, _, _, _, _, _, _, _, _, _, _, _, _, _, _, _, _, _, _, _, _, _, _, _, _, _, _, _, _, _, _, _, _, _, _, _, _, _, _, _, _, _, _, _, _, _, _, _, _, _, _, _, _, _, _, _, _, _, _, _, _, _, _, _, _, _, _, _, _, _, _, _, _, _, _, _, _, _, _, _, _, _, _, ⟨gq, cq, hu, ow, hb⟩, rfl⟩))
                    obtain ⟨g6, c6, rfl, HO6, HB6⟩ := hcut
                    obtain ⟨wd, hwd⟩ : ∃ wd, wd = wc := ⟨_, rfl⟩
                    subst hwd
                    have BYd := HBYb.out.trans (HB6.out.mono HBYb.out.size)
                    have TYd := five_below HTY.out BYd
                    have l7 := lt_of_block TYd
                    have f3 := (five_cells TYd).2.2.2.1
                    have szd : w.heap.size ≤ wd.heap.size := Nat.le_trans szb HB6.out.size
                    have hT5 := intsAt_below (ints_take (own_ints HY5.out) hi) BYd
                    have hD5 := intsAt_below HRb.out HB6.out
                    have HBXd : Hid (Below X2.heap.size X2 wd) := HBY.out.trans (BYd.mono HBY.out.size)
                    clear f0
                    go_wp2_with fail
                    refine regPut (s0 := 90) (ls := 5) (rs := 10) (P7 := P7) (fd := 3) (kk := i) (m := ss.length - i) (x := mh) (T := (hshG G.objs ss).take i) (D := (hshG G.objs ss).drop i) (lv := .slice (some ⟨g5, 0, none⟩) ss.length c5) (pv := .slice (some ⟨g5, 0, none⟩) i c5) (rv := .slice (some ⟨gb', 0, none⟩) (ss.length - i) cb) (a := some ⟨g5, 0, none⟩) (cap := c5) (gr := gb') (cr := cb) (by simp) ?_ rfl ⟨_, rfl, rfl, rfl, by simp [Region.binds]⟩ ⟨_, rfl, rfl, rfl, by simp [Region.binds]⟩ ⟨_, rfl, rfl, rfl, by simp [Region.binds]⟩ ⟨_, rfl, rfl, rfl, by simp [Region.binds]⟩ ⟨_, rfl, rfl, rfl, by simp [Region.binds]⟩ ⟨_, rfl, rfl, rfl, by simp [Region.binds]⟩ ⟨_, rfl, rfl, rfl, by simp [Region.binds]⟩ ⟨_, rfl, rfl, rfl, by simp [Region.binds]⟩ ⟨_, rfl, rfl, rfl, by simp [Region.binds]⟩ ⟨_, rfl, rfl, rfl, by simp [Region.binds]⟩ ⟨_, rfl, rfl, rfl, by simp [Region.binds]⟩ ⟨_, rfl, rfl, rfl, by simp [Region.binds]⟩ (by decide) (by decide) (by decide) (by decide) (by decide) (by decide) (by simp) rfl rfl rfl rfl (rs_cut (by omega) (by omega) (by omega)) (rs_f3 P7) l7 f3 rfl hT5 rfl hD5 (by omega) (by omega) ?_
                    · intro k' o' ho' e' he'
                      have hk' : k' < 12 := (Array.getElem?_eq_some_iff.1 ho').1
                      rcases (show k' = 0 ∨ k' = 1 ∨ k' = 2 ∨ k' = 3 ∨ k' = 4 ∨ k' = 5 ∨ k' = 6 ∨ k' = 7 ∨ k' = 8 ∨ k' = 9 ∨ k' = 10 ∨ k' = 11 by omega) with rfl | rfl | rfl | rfl | rfl | rfl | rfl | rfl | rfl | rfl | rfl | rfl
                      all_goals
                        injection ho' with ho'
                        subst ho'
                        simp at he'
                        try omega
                      all_goals
                        first
                          | (subst he'; decide)
                          | (rcases he' with rfl | rfl <;> decide)
                          | (rcases he' with rfl | rfl | rfl <;> decide)
                          | (rcases he' with rfl | rfl | rfl | rfl <;> decide)
                          | (rcases he' with rfl | rfl | rfl | rfl | rfl <;> decide)
                          | (rcases he' with rfl | rfl | rfl | rfl | rfl | rfl <;> decide)
                          | (rcases he' with rfl | rfl | rfl | rfl | rfl | rfl | rfl <;> decide)
                          | (rcases he' with rfl | rfl | rfl | rfl | rfl | rfl | rfl | rfl <;> decide)
                          | (rcases he' with rfl | rfl | rfl | rfl | rfl | rfl | rfl | rfl | rfl <;> decide)
                          | (rcases he' with rfl | rfl | rfl | rfl | rfl | rfl | rfl | rfl | rfl | rfl <;> decide)
                          | (rcases he' with rfl | rfl | rfl | rfl | rfl | rfl | rfl | rfl | rfl | rfl | rfl <;> decide)
                          | (rcases he' with rfl | rfl | rfl | rfl | rfl | rfl | rfl | rfl | rfl | rfl | rfl | rfl <;> decide)
                          | (rcases he' with rfl | rfl | rfl | rfl | rfl | rfl | rfl | rfl | rfl | rfl | rfl | rfl | rfl <;> decide)
                          | (rcases he' with rfl | rfl | rfl | rfl | rfl | rfl | rfl | rfl | rfl | rfl | rfl | rfl | rfl | rfl <;> decide)
                          | (rcases he' with rfl | rfl | rfl | rfl | rfl | rfl | rfl | rfl | rfl | rfl | rfl | rfl | rfl | rfl | rfl <;> decide)
                          | (rcases he' with rfl | rfl | rfl | rfl | rfl | rfl | rfl | rfl | rfl | rfl | rfl | rfl | rfl | rfl | rfl | rfl <;> decide)
                          | (rcases he' with rfl | rfl | rfl | rfl | rfl | rfl | rfl | rfl | rfl | rfl | rfl | rfl | rfl | rfl | rfl | rfl | rfl <;> decide)
                    rintro u w' v hu hrow hb
                    obtain ⟨gq, cq, hv⟩ : ∃ g c, v = .slice (some ⟨g, 0, none⟩) (ss.length + 1) c := by
                      obtain ⟨_, ⟨_, q0⟩ | ⟨g, c', cur, q1, _⟩⟩ := id hrow
                      · omega
                      · exact ⟨g, c', by rw [q1]; congr 1; omega⟩
                    subst hv
                    have ow := own_put (R := (hshG G.objs ss).take i ++ mh :: (hshG G.objs ss).drop i) rfl (by simp; omega) (row_base hrow szd)
                    have HB7 : Hid _ := hb
                    have HO7 : Hid _ := ow
                    clear ow hb hrow
                    simp [ovr, List.range, List.range.loop, hu]
                    have hins := insG_at (os := G.objs) (p := k) hi (fun j hj => by
                          have := hall j hj
                          rw [HHS.out]
                          have e : (hshG G.objs ss).getD j 0 = (G.objs.getD (ss.getD j 0) obD).hash := by
                            rw [List.getD_eq_getElem?_getD, List.getElem?_map, List.getElem?_eq_getElem (show j < ss.length by omega), List.getD_eq_getElem?_getD (l := ss), List.getElem?_eq_getElem (show j < ss.length by omega)]
                            rfl
                          rw [← e]
                          exact this) (fun h => absurd h (by omega))
                    have HST : Hid (∃ (k' g4' c4' g5' c5' : Nat), k' ≤ ms.length ∧ Value.int .i64 ((k : Int) + 1) = .int .i64 k' ∧ Value.slice (some ⟨g6, 0, none⟩) (ss.length + 1) c6 = .slice (some ⟨g4', 0, none⟩) (sortG G.objs f k').length c4' ∧ Value.slice (some ⟨gq, 0, none⟩) (ss.length + 1) cq = .slice (some ⟨g5', 0, none⟩) (sortG G.objs f k').length c5' ∧ Own w' w.heap.size (.slice (some ⟨g4', 0, none⟩) (sortG G.objs f k').length c4') (idsG G.objs (sortG G.objs f k')) ∧ Own w' w.heap.size (.slice (some ⟨g5', 0, none⟩) (sortG G.objs f k').length c5') (hshG G.objs (sortG G.objs f k')) ∧ Below X2.heap.size X2 w') := by
                      have e1 : idsG G.objs (sortG G.objs f (k + 1)) = (idsG G.objs ss).take i ++ mi :: (idsG G.objs ss).drop i := by rw [HX.out, hins, ← HID.out]; simp [idsG]
                      have e2 : hshG G.objs (sortG G.objs f (k + 1)) = (hshG G.objs ss).take i ++ mh :: (hshG G.objs ss).drop i := by rw [HX.out, hins, ← HHS.out]; simp [hshG]
                      have e3 : (sortG G.objs f (k + 1)).length = ss.length + 1 := by rw [HX.out, len_insG]
                      exact ⟨k + 1, g6, c6, gq, cq, by omega, by simp, by rw [e3], by rw [e3], by rw [e3, e1]; exact own_below HO6.out HB7.out, by rw [e3, e2]; exact HO7.out, HBXd.out.trans (HB7.out.mono HBXd.out.size)⟩
                    clear hins
                    go_wp2
                    exact ⟨HST.out, by simp [intOf]; omega⟩
          · have hk2' : (k0 != 2) = true := by simpa using hk2
            have hfk : f k = false := by
              cases e : f k
              · rfl
              · obtain ⟨_, _, q', h1, h2⟩ := HFK.out.1 e
                rw [HKN.out hk2] at h1
                cases h1
            have HX : Hid _ := HSKIP.out hfk
            clear HSKIP HNO HYES HKX HKN HIN hfk he0 hk2
            go_wp2_with (go_at_call 62; refine HS1.mono ?_; clear HS1; rintro e w4 ⟨rfl, hw4⟩; rw [hw4]; clear hw4)
            exact ⟨HX.out, by simp [intOf]; omega⟩
        · have HS1 := l1Has_any HRY.out (by omega) mi
          rw [decide_eq_false hi1] at HS1
          have hfk : f k = false := by
            cases e : f k
            · rfl
            · exact absurd (HIN.out.2 (HFK.out.1 e).1) hi1
          have HX : Hid _ := HSKIP.out hfk
          clear HSKIP HNO HYES HKX HKN HIN hfk
          go_wp2_with (go_at_call 62; refine HS1.mono ?_; clear HS1; rintro e w4 ⟨rfl, hw4⟩; rw [hw4]; clear hw4)
          exact ⟨HX.out, by simp [intOf]; omega⟩
      · have hf2' : (mf != 2) = true := by simpa using hf2
        have hfk : f k = false := by
          cases e : f k
          · rfl
          · have := (HFK.out.1 e).2.1
            rw [HFM.out] at this
            exact absurd this hf2
        have HX : Hid _ := HSKIP.out hfk
        clear HSKIP HNO HYES HKX HKN HIN hfk hf2
        go_wp2
        exact ⟨HX.out, by simp [intOf]; omega⟩
    · have e : k = ms.length := by omega
      subst e
      have hfin : Own wr w.heap.size (.slice (some ⟨g4, 0, none⟩) (sortG G.objs f ms.length).length c4) (idsG G.objs ps) := by
        have := HO4.out
        rw [HPS.out, ← HLEN.out]
        exact this
      have HFO : Hid _ := hfin
      have HFB : Hid (Below w.heap.size w wr) := HB2.out.trans (hB.mono HB2.out.size)
      clear hO4 hO5 hB hfin
      generalize (sortG G.objs f ms.length).length = nn at *
      go_wp2
      go_ret
      exact ⟨_, rfl, HFO.out, HFB.out⟩
end Go.Proofs.Ytdogibjgogcdkal.gr
namespace Go.Proofs.Ytdogibjgogcdkal.gr
open Go.RowKit rows heads
set_option maxRecDepth 100000
set_option linter.unusedVariables false

set_option maxHeartbeats 4000000 in
theorem sGrieving_any {w : World} {o r m : Value} {ms : List MO} {G : Gr} (h : GraphAt w o r m ms G) (hs : gSize ms G ≤ 1048576) {xs : List Int} (hx : IsGrieving G xs) :
    Calls Try.prog 17 #[gv o r m G.next G.seed] w fun e w' => ∃ v, e = .returned v ∧ Own w' w.heap.size v xs ∧ Below w.heap.size w w' := by
  obtain ⟨a1, n1, c1, a2, n2, c2, a3, n3, c3, e1, e2, e3⟩ := graphAt_slices h
  subst e1 e2 e3
  have B : Below w.heap.size w (w.alloc (gb (.slice a1 n1 c1) (.slice a2 n2 c2) (.slice a3 n3 c3) G.next G.seed)) := (Below.refl _ w).alloc (Nat.le_refl _) _
  have T := five_new w 32 (.slice a1 n1 c1) (.slice a2 n2 c2) (.slice a3 n3 c3) (.int .i64 G.next) (.int .i64 G.seed)
  have GO := sGraphOk_any (graphAt_below h B) hs
  have HG : Hid _ := h
  have HB : Hid _ := B
  have HT : Hid _ := T
  have HX : Hid _ := hx
  clear h B T hx
  go_enter Try.func17, Try.ntmps17
  go_wp2_with fail
  generalize hX : (w.alloc (gb (.slice a1 n1 c1) (.slice a2 n2 c2) (.slice a3 n3 c3) G.next G.seed)) = X at *
  clear hX
  refine GO.mono ?_
  rintro e w1 ⟨rfl, b1⟩
  have B1 := HB.out.trans (b1.mono HB.out.size)
  have T1 := five_below HT.out b1
  have HB1 : Hid _ := B1
  clear GO HB HT b1
  cases ok : gOk G
  · have hxs : xs = [] := by
      rcases HX.out with ⟨_, e⟩ | ⟨e, _⟩
      · exact e
      · rw [ok] at e; cases e
    subst hxs
    have HF : Hid (Own (w1.alloc (.cells #[] 2)) w.heap.size (.slice (some ⟨w1.heap.size, 0, none⟩) 0 0) []) := ⟨rfl, .inr ⟨w1.heap.size, 0, #[], rfl, B1.size, heap_alloc_new w1 _, Nat.le_refl _, by decide, rfl, rfl⟩⟩
    have HFB : Hid (Below w.heap.size w (w1.alloc (.cells #[] 2))) := B1.alloc B1.size _
    clear B1 T1 HG HX
    go_wp2
    go_ret
    exact ⟨_, rfl, HF.out, HFB.out⟩
  · obtain ⟨ps, hps, hxs⟩ : ∃ ps, IsG G ps ∧ xs = ps.map fun p => (G.objs.getD p obD).id := by
      rcases HX.out with ⟨e, _⟩ | ⟨_, e⟩
      · rw [ok] at e; cases e
      · exact e
    subst hxs
    have L7 := l7Grieving_any (graphAt_below HG.out B1) ok hps
    obtain ⟨z0, z1, z2, z3, z4, _⟩ := five_cells T1
    have sz1 := B1.size
    clear B1 T1 HG HX hps
    go_wp2_with fail
    refine L7.mono ?_
    rintro e w2 ⟨v, rfl, O2, b2⟩
    obtain ⟨va, vn, vc, rfl⟩ := ints_sl (own_ints O2)
    have HF : Hid (Own w2 w.heap.size _ (idsG G.objs ps)) := own_base O2 sz1
    have HFB : Hid _ := HB1.out.trans (b2.mono sz1)
    clear L7 O2 b2
    go_wp2
    go_ret
    exact ⟨_, rfl, HF.out, HFB.out⟩
end Go.Proofs.Ytdogibjgogcdkal.gr
namespace Go.Proofs.Ytdogibjgogcdkal.gr
open Go.RowKit rows heads
set_option maxRecDepth 100000

set_option maxHeartbeats 16000000 in
theorem exactMourning {G R : Gr} 
    (SPEC : ∀ (w : World) (o r m : Value) (ms : List MO), GraphAt w o r m ms G → gSize ms G ≤ 1048576 → Calls Try.prog 19 #[gv o r m G.next G.seed] w fun e w' => ∃ (o' r' m' : Value) (rs : List MO), e = .returned (gv o' r' m' R.next R.seed) ∧ OwnG w' w.heap.size o' r' m' rs R ∧ Below w.heap.size w w')
    (IMPL : ∀ (w : World) (o r m : Value) (ms : List MO), GraphAt w o r m ms G → gSize ms G ≤ 1048576 → Calls Try.prog 20 #[gv o r m G.next G.seed] w fun e w' => ∃ (o' r' m' : Value) (rs : List MO), e = .returned (gv o' r' m' R.next R.seed) ∧ OwnG w' w.heap.size o' r' m' rs R ∧ Below w.heap.size w w')
    (hR : (∃ ms : List MO, ms.map MO.abs = G.objs ∧ gSize ms G ≤ 1048576) → ∀ rs : List MO, rs.map MO.abs = R.objs → gSize rs R ≤ 1048576)
    (w : World) (o r m : Value) (ms : List MO) (h : GraphAt w o r m ms G) :
    Calls Try.prog 5 #[gv o r m G.next G.seed] w fun e w' => e = .returned (.bool true) ∧ Below w.heap.size w w' := by
  obtain ⟨a1, n1, c1, a2, n2, c2, a3, n3, c3, e1, e2, e3⟩ := graphAt_slices h
  subst e1 e2 e3
  have B0 : Below w.heap.size w (w.alloc (.cells #[.slice a1 n1 c1, .slice a2 n2 c2, .slice a3 n3 c3, .int .i64 G.next, .int .i64 G.seed] 25)) := (Below.refl _ w).alloc (Nat.le_refl _) _
  have T0 := five_new w 25 (.slice a1 n1 c1) (.slice a2 n2 c2) (.slice a3 n3 c3) (.int .i64 G.next) (.int .i64 G.seed)
  have SZ := szGraph_any (graphAt_below h B0) 1048576 (Nat.le_refl _)
  have HG : Hid _ := h
  have HB0 : Hid _ := B0
  have HT0 : Hid _ := T0
  clear B0 T0 h
  go_enter Try.func5, Try.ntmps5
  go_wp2_with fail
  generalize (w.alloc (Obj.cells #[.slice a1 n1 c1, .slice a2 n2 c2, .slice a3 n3 c3, .int .i64 G.next, .int .i64 G.seed] 25)) = X0 at *
  refine SZ.mono ?_
  rintro e w1 ⟨rfl, q1⟩
  have B1 := HB0.out.trans (q1.mono HB0.out.size)
  have T1 := five_below HT0.out q1
  clear SZ HB0 HT0 q1
  by_cases hsz : gSize ms G ≤ 1048576
  case neg =>
    rw [if_neg hsz]
    have HB : Hid _ := B1
    clear B1 T1 HG
    go_wp2
    go_ret
    exact ⟨rfl, HB⟩
  rw [if_pos hsz]
  obtain ⟨lf, hlf⟩ : ∃ lf : Nat, ((1048576 : Nat) : Int) - (gSize ms G : Int) = (lf : Int) := ⟨1048576 - gSize ms G, by omega⟩
  rw [hlf]
  have hl0 : ¬ (lf : Int) < 0 := by omega
  have hRR := hR ⟨ms, HG.out.1, hsz⟩
  have HRR : Hid _ := hRR
  clear hlf hRR hR
  obtain ⟨z0, z1, z2, z3, z4, _⟩ := five_cells T1
  -- the specification's answer
  have TG := toGraph_any (graphAt_below HG.out B1) hsz
  have HT1 : Hid _ := T1
  have HB1 : Hid _ := B1
  clear T1 B1
  go_wp2_with fail
  refine TG.mono ?_
  rintro e w2 ⟨o2, r2, m2, rs2, rfl, O2, q2⟩
  have B2 := HB1.out.trans (q2.mono HB1.out.size)
  have T2 := five_below HT1.out q2
  obtain ⟨d1, f1, g1, d2, f2, g2, d3, f3, g3, e1, e2, e3⟩ := graphAt_slices (ownG_at O2)
  subst e1 e2 e3
  have SP := SPEC w2 _ _ _ _ (ownG_at O2) (gSize_of O2.1 HG.out.1 hsz)
  have HT2 : Hid _ := T2
  have HB2 : Hid _ := B2
  clear TG q2 T2 B2 HT1 HB1 O2 SPEC z0 z1 z2 z3 z4
  go_wp2_with fail
  refine SP.mono ?_
  rintro e w3 ⟨o3, r3, m3, rs3, rfl, O3, q3⟩
  have B3 := HB2.out.trans (q3.mono HB2.out.size)
  have T3 := five_below HT2.out q3
  obtain ⟨d1, f1, g1, d2, f2, g2, d3, f3, g3, e1, e2, e3⟩ := graphAt_slices (ownG_at O3)
  subst e1 e2 e3
  have N3 := (Below.refl w3.heap.size w3).alloc (Nat.le_refl _) (gb (.slice d1 f1 g1) (.slice d2 f2 g2) (.slice d3 f3 g3) R.next R.seed)
  have B4 := B3.trans (N3.mono B3.size)
  have T4 := five_below T3 N3
  have W4 := five_new w3 32 (.slice d1 f1 g1) (.slice d2 f2 g2) (.slice d3 f3 g3) (.int .i64 R.next) (.int .i64 R.seed)
  have O4 := ownG_below O3 N3
  have L4 := ownG_lt O3
  have p5 := lt_of_block T4
  obtain ⟨z0, z1, z2, z3, z4, _⟩ := five_cells T4
  have TG := toGraph_any (graphAt_below HG.out B4) hsz
  have p12 : w3.heap.size < (w3.alloc (gb (.slice d1 f1 g1) (.slice d2 f2 g2) (.slice d3 f3 g3) R.next R.seed)).heap.size := by simp
  have HT4 : Hid _ := T4
  have HB4 : Hid _ := B4
  have HW4 : Hid _ := W4
  have HO4 : Hid _ := O4
  have HL4 : Hid _ := L4
  clear SP HT2 HB2 B3 T3 N3 B4 T4 W4 O4 O3 q3 L4
  go_wp2_with fail
  generalize hX4 : (w3.alloc (gb (.slice d1 f1 g1) (.slice d2 f2 g2) (.slice d3 f3 g3) R.next R.seed)) = X4 at *
  generalize hP12 : w3.heap.size = P12 at *
  clear hX4
  refine TG.mono ?_
  rintro e w5 ⟨o5, r5, m5, rs5, rfl, O5, q5⟩
  have s5 := q5.size
  have B5 := HB4.out.trans (q5.mono HB4.out.size)
  have T5 := five_below HT4.out q5
  have W5 := five_below HW4.out q5
  have OW5 := ownG_below HO4.out q5
  obtain ⟨h1, i1, j1, h2, i2, j2, h3, i3, j3, e1, e2, e3⟩ := graphAt_slices (ownG_at O5)
  subst e1 e2 e3
  have N5 := (Below.refl w5.heap.size w5).alloc (Nat.le_refl _) (gb (.slice h1 i1 j1) (.slice h2 i2 j2) (.slice h3 i3 j3) G.next G.seed)
  have B6 := B5.trans (N5.mono B5.size)
  have T6 := five_below T5 N5
  have W6 := five_below W5 N5
  have OW6 := ownG_below OW5 N5
  have X6f := five_new w5 32 (.slice h1 i1 j1) (.slice h2 i2 j2) (.slice h3 i3 j3) (.int .i64 G.next) (.int .i64 G.seed)
  have OX6 := ownG_below O5 N5
  have LX := ownG_lt O5
  obtain ⟨x0, x1, x2, x3, x4, _⟩ := five_cells X6f
  have IM := IMPL _ _ _ _ _ (ownG_at OX6) (gSize_of OX6.1 HG.out.1 hsz)
  have p14 : w5.heap.size < (w5.alloc (gb (.slice h1 i1 j1) (.slice h2 i2 j2) (.slice h3 i3 j3) G.next G.seed)).heap.size := by simp
  have HB6 : Hid _ := B6
  have HT6 : Hid _ := T6
  have HW6 : Hid _ := W6
  have HOW6 : Hid _ := OW6
  have HX6 : Hid _ := X6f
  have HOX6 : Hid _ := OX6
  have HLX : Hid _ := LX
  clear TG HB4 HT4 HW4 HO4 q5 B5 T5 W5 OW5 N5 B6 T6 W6 OW6 X6f OX6 LX O5 z0 z1 z2 z3 z4
  -- the program's answer
  go_wp2_with fail
  generalize hX6 : (w5.alloc (gb (.slice h1 i1 j1) (.slice h2 i2 j2) (.slice h3 i3 j3) G.next G.seed)) = X6 at *
  generalize hP14 : w5.heap.size = P14 at *
  clear hX6
  refine IM.mono ?_
  rintro e w7 ⟨o7, r7, m7, rs7, rfl, O7, q7⟩
  have s7 := q7.size
  have B7 := HB6.out.trans (q7.mono HB6.out.size)
  have T7 := five_below HT6.out q7
  have W7 := five_below HW6.out q7
  have OW7 := ownG_below HOW6.out q7
  have X7 := five_below HX6.out q7
  have OX7 := ownG_below HOX6.out q7
  obtain ⟨k1, l1, m1, k2, l2, m2, k3, l3, m3, e1, e2, e3⟩ := graphAt_slices (ownG_at O7)
  subst e1 e2 e3
  have N7 := (Below.refl w7.heap.size w7).alloc (Nat.le_refl _) (gb (.slice k1 l1 m1) (.slice k2 l2 m2) (.slice k3 l3 m3) R.next R.seed)
  have B8 := B7.trans (N7.mono B7.size)
  have T8 := five_below T7 N7
  have W8 := five_below W7 N7
  have OW8 := ownG_below OW7 N7
  have X8f := five_below X7 N7
  have OX8 := ownG_below OX7 N7
  have Y8 := five_new w7 32 (.slice k1 l1 m1) (.slice k2 l2 m2) (.slice k3 l3 m3) (.int .i64 R.next) (.int .i64 R.seed)
  have OY8 := ownG_below O7 N7
  have LY := ownG_lt O7
  have p15 : w7.heap.size < (w7.alloc (gb (.slice k1 l1 m1) (.slice k2 l2 m2) (.slice k3 l3 m3) R.next R.seed)).heap.size := by simp
  have EQ := eqGraph_same (ownG_at OY8) (ownG_at OW8) (HRR.out _ OY8.1)
  clear x0 x1 x2 x3 x4
  obtain ⟨y0, y1, y2, y3, y4, _⟩ := five_cells Y8
  obtain ⟨v0, v1, v2, v3, v4, _⟩ := five_cells W8
  have HB8 : Hid _ := B8
  have HT8 : Hid _ := T8
  have HW8 : Hid _ := W8
  have HOW8 : Hid _ := OW8
  have HX8 : Hid _ := X8f
  have HOX8 : Hid _ := OX8
  have HY8 : Hid _ := Y8
  have HOY8 : Hid _ := OY8
  have HLY : Hid _ := LY
  clear IM HB6 HT6 HW6 HOW6 HX6 HOX6 q7 B7 T7 W7 OW7 X7 OX7 N7 B8 T8 W8 OW8 X8f OX8 Y8 OY8 LY O7
  go_wp2_with fail
  generalize hX8 : (w7.alloc (gb (.slice k1 l1 m1) (.slice k2 l2 m2) (.slice k3 l3 m3) R.next R.seed)) = X8 at *
  generalize hP15 : w7.heap.size = P15 at *
  clear hX8
  refine EQ.mono ?_
  rintro e w9 ⟨rfl, q9⟩
  have s9 := q9.size
  have B9 := HB8.out.trans (q9.mono HB8.out.size)
  have T9 := five_below HT8.out q9
  have W9 := five_below HW8.out q9
  have OW9 := ownG_below HOW8.out q9
  have X9 := five_below HX8.out q9
  have OX9 := ownG_below HOX8.out q9
  have Y9 := five_below HY8.out q9
  have OY9 := ownG_below HOY8.out q9
  clear EQ HB8 HT8 HW8 HOW8 HX8 HOX8 HY8 HOY8 q9 y0 y1 y2 y3 y4 v0 v1 v2 v3 v4
  -- the argument is as it was
  have D9 : Below w9.heap.size w9 w9.drew := (Below.refl _ w9).drew
  have TG := toGraph_any (w := w9.drew) (graphAt_below HG.out B9.drew) hsz
  obtain ⟨z0, z1, z2, z3, z4, _⟩ := five_cells T9
  obtain ⟨x0, x1, x2, x3, x4, _⟩ := five_cells X9
  have z0d : w9.drew.cell? ⟨w.heap.size, 0, none⟩ = some (.slice a1 n1 c1) := z0
  have HB9 : Hid _ := B9
  have HT9 : Hid _ := T9
  have HW9 : Hid _ := W9
  have HOW9 : Hid _ := OW9
  have HX9 : Hid _ := X9
  have HOX9 : Hid _ := OX9
  have HY9 : Hid _ := Y9
  have HOY9 : Hid _ := OY9
  clear B9 T9 W9 OW9 X9 OX9 Y9 OY9 D9 z0d
  go_wp2_with fail
  go_region_law (first
    | (go_simp; go_at_call 10; refine TG.mono ?_; clear TG; rintro e w10 ⟨o10, r10, m10, rs10, rfl, O10, q10⟩
       obtain ⟨u1, u2, u3, u4, u5, u6, u7, u8, u9, e1, e2, e3⟩ := graphAt_slices (ownG_at O10)
       subst e1 e2 e3
       have D10 : Below w9.heap.size w9 w10 := ⟨q10.os, q10.tape, q10.output, q10.size, q10.block⟩
       have EQ2 := eqGraph_same (ownG_at (ownG_below HOX9.out D10)) (ownG_at O10) (gSize_of HOX9.out.1 HG.out.1 hsz)
       have X10 := five_below HX9.out D10
       obtain ⟨t0, t1, t2, t3, t4, _⟩ := five_cells X10
       have HD10 : Hid _ := D10
       clear q10 D10 O10 X10)
    | (go_simp; go_at_call 13; refine EQ2.mono ?_; clear EQ2; rintro e w11 ⟨rfl, q11⟩; have HD11 : Hid _ := HD10.out.trans (q11.mono HD10.out.size); clear q11 HD10))
  all_goals
    have D11 := HD11.out
    have B11 := HB9.out.trans (D11.mono HB9.out.size)
    have T11 := five_below HT9.out D11
    have W11 := five_below HW9.out D11
    have OW11 := ownG_below HOW9.out D11
    have X11 := five_below HX9.out D11
    have OX11 := ownG_below HOX9.out D11
    have Y11 := five_below HY9.out D11
    have OY11 := ownG_below HOY9.out D11
    have s11 := D11.size
    clear HD11 HB9 HT9 HW9 HOW9 HX9 HOX9 HY9 HOY9 D11 z0 z1 z2 z3 z4 x0 x1 x2 x3 x4
    have MK := markGraph_any OX11 (gSize_of OX11.1 HG.out.1 hsz) 1 (by decide)
    rw [show ((1 : Nat) : Int) = 1 from rfl] at MK
    obtain ⟨x0, x1, x2, x3, x4, _⟩ := five_cells X11
    have HB11 : Hid _ := B11
    have HT11 : Hid _ := T11
    have HW11 : Hid _ := W11
    have HOW11 : Hid _ := OW11
    have HY11 : Hid _ := Y11
    have HOY11 : Hid _ := OY11
    clear B11 T11 W11 OW11 X11 OX11 Y11 OY11
    go_wp2_with fail
    refine MK.mono ?_
    rintro e w12 ⟨kE, rfl, hkE, -, C12⟩
    have kE0 : ¬ (kE : Int) < 0 := by omega
    have fx : ∀ k ∈ gblk (.slice h1 i1 j1) (.slice h2 i2 j2) (.slice h3 i3 j3) rs5, X4.heap.size ≤ k ∧ k < P14 := HLX.out
    have s12 := C12.size
    have B12 := HB11.out.trans (below_ch C12 HB11.out.size (fun k hk => by have := (fx k hk).1; omega))
    have T12 := five_ch HT11.out C12 (fun e => by have := (fx _ e).1; omega)
    have W12 := five_ch HW11.out C12 (fun e => by have := (fx _ e).1; omega)
    have Y12 := five_ch HY11.out C12 (fun e => by have := (fx _ e).2; omega)
    have OW12 := ownG_ch HOW11.out C12 (fun k hk e => by have := (fx _ e).1; have := (HL4.out k hk).2; omega)
    have OY12 := ownG_ch HOY11.out C12 (fun k hk e => by have := (fx _ e).2; have := (HLY.out k hk).1; omega)
    clear MK C12 fx HB11 HT11 HW11 HOW11 HY11 HOY11 x0 x1 x2 x3 x4
    have EQ := eqGraph_same (ownG_at OY12) (ownG_at OW12) (HRR.out _ OY12.1)
    obtain ⟨y0, y1, y2, y3, y4, _⟩ := five_cells Y12
    obtain ⟨v0, v1, v2, v3, v4, _⟩ := five_cells W12
    have HB12 : Hid _ := B12
    have HT12 : Hid _ := T12
    have HW12 : Hid _ := W12
    have HOW12 : Hid _ := OW12
    have HY12 : Hid _ := Y12
    have HOY12 : Hid _ := OY12
    clear B12 T12 W12 OW12 Y12 OY12
    go_wp2_with fail
    refine EQ.mono ?_
    rintro e w13 ⟨rfl, q13⟩
    have s13 := q13.size
    have B13 := HB12.out.trans (q13.mono HB12.out.size)
    have T13 := five_below HT12.out q13
    have W13 := five_below HW12.out q13
    have OW13 := ownG_below HOW12.out q13
    have Y13 := five_below HY12.out q13
    have OY13 := ownG_below HOY12.out q13
    clear EQ q13 HB12 HT12 HW12 HOW12 HY12 HOY12 y0 y1 y2 y3 y4 v0 v1 v2 v3 v4
    have MK := markGraph_any OY13 (HRR.out _ OY13.1) 1 (by decide)
    rw [show ((1 : Nat) : Int) = 1 from rfl] at MK
    obtain ⟨y0, y1, y2, y3, y4, _⟩ := five_cells Y13
    have HB13 : Hid _ := B13
    have HT13 : Hid _ := T13
    have HW13 : Hid _ := W13
    have HOW13 : Hid _ := OW13
    have HY13 : Hid _ := Y13
    clear B13 T13 W13 OW13 Y13 OY13
    go_wp2_with fail
    refine MK.mono ?_
    rintro e w14 ⟨kF, rfl, hkF, MD14, C14⟩
    have kF0 : ¬ (kF : Int) < 0 := by omega
    have kFF : ((kF : Int) != (kF : Int)) = false := by simp
    have fy : ∀ k ∈ gblk (.slice k1 l1 m1) (.slice k2 l2 m2) (.slice k3 l3 m3) rs7, X6.heap.size ≤ k ∧ k < P15 := HLY.out
    have s14 := C14.size
    have B14 := HB13.out.trans (below_ch C14 HB13.out.size (fun k hk => by have := (fy k hk).1; omega))
    have T14 := five_ch HT13.out C14 (fun e => by have := (fy _ e).1; omega)
    have W14 := five_ch HW13.out C14 (fun e => by have := (fy _ e).1; omega)
    have Y14 := five_ch HY13.out C14 (fun e => by have := (fy _ e).2; omega)
    have OW14 := ownG_ch HOW13.out C14 (fun k hk e => by have := (fy _ e).1; have := (HL4.out k hk).2; omega)
    clear MK C14 fy HB13 HT13 HW13 HOW13 HY13 y0 y1 y2 y3 y4
    have HE := heldGraph_any R.next R.seed MD14 (by decide)
    rw [show ((1 : Nat) : Int) = 1 from rfl] at HE
    obtain ⟨y0, y1, y2, y3, y4, _⟩ := five_cells Y14
    have HB14 : Hid _ := B14
    have HT14 : Hid _ := T14
    have HW14 : Hid _ := W14
    have HOW14 : Hid _ := OW14
    have HY14 : Hid _ := Y14
    have HMD14 : Hid _ := MD14
    clear B14 T14 W14 OW14 Y14 MD14
    go_wp2_with fail
    refine HE.mono ?_
    rintro e w15 ⟨rfl, q15⟩
    have B15 := HB14.out.trans (q15.mono HB14.out.size)
    have T15 := five_below HT14.out q15
    have W15 := five_below HW14.out q15
    have OW15 := ownG_below HOW14.out q15
    have Y15 := five_below HY14.out q15
    have MD15 := marked_below HMD14.out q15
    clear HE q15 HB14 HT14 HW14 HOW14 HY14 HMD14 y0 y1 y2 y3 y4
    -- the program's answer once more
    have TG := toGraph_any (graphAt_below HG.out B15) hsz
    obtain ⟨z0, z1, z2, z3, z4, _⟩ := five_cells T15
    have HB15 : Hid _ := B15
    have HW15 : Hid _ := W15
    have HOW15 : Hid _ := OW15
    have HY15 : Hid _ := Y15
    have HMD15 : Hid _ := MD15
    clear B15 T15 W15 OW15 Y15 MD15
    go_wp2_with fail
    refine TG.mono ?_
    rintro e w16 ⟨o16, r16, m16, rs16, rfl, O16, q16⟩
    have B16 := HB15.out.trans (q16.mono HB15.out.size)
    have W16 := five_below HW15.out q16
    have OW16 := ownG_below HOW15.out q16
    have Y16 := five_below HY15.out q16
    have MD16 := marked_below HMD15.out q16
    obtain ⟨t1, t2, t3, t4, t5, t6, t7, t8, t9, e1, e2, e3⟩ := graphAt_slices (ownG_at O16)
    subst e1 e2 e3
    have IM := IMPL w16 _ _ _ _ (ownG_at O16) (gSize_of O16.1 HG.out.1 hsz)
    have HB16 : Hid _ := B16
    have HW16 : Hid _ := W16
    have HOW16 : Hid _ := OW16
    have HY16 : Hid _ := Y16
    have HMD16 : Hid _ := MD16
    clear TG q16 B16 W16 OW16 Y16 MD16 O16 HB15 HW15 HOW15 HY15 HMD15 z0 z1 z2 z3 z4
    go_wp2_with fail
    refine IM.mono ?_
    rintro e w17 ⟨o17, r17, m17, rs17, rfl, O17, q17⟩
    have B17 := HB16.out.trans (q17.mono HB16.out.size)
    have W17 := five_below HW16.out q17
    have OW17 := ownG_below HOW16.out q17
    have Y17 := five_below HY16.out q17
    have MD17 := marked_below HMD16.out q17
    obtain ⟨t1, t2, t3, t4, t5, t6, t7, t8, t9, e1, e2, e3⟩ := graphAt_slices (ownG_at O17)
    subst e1 e2 e3
    have N17 := (Below.refl w17.heap.size w17).alloc (Nat.le_refl _) (gb (.slice t1 t2 t3) (.slice t4 t5 t6) (.slice t7 t8 t9) R.next R.seed)
    have B18 := B17.trans (N17.mono B17.size)
    have W18 := five_below W17 N17
    have OW18 := ownG_below OW17 N17
    have Y18 := five_below Y17 N17
    have MD18 := marked_below MD17 N17
    have V18 := five_new w17 32 (.slice t1 t2 t3) (.slice t4 t5 t6) (.slice t7 t8 t9) (.int .i64 R.next) (.int .i64 R.seed)
    have O18 := ownG_below O17 N17
    have EQ := eqGraph_same (ownG_at O18) (ownG_at OW18) (HRR.out _ O18.1)
    obtain ⟨v0, v1, v2, v3, v4, _⟩ := five_cells W18
    obtain ⟨y0, y1, y2, y3, y4, _⟩ := five_cells V18
    have HB18 : Hid _ := B18
    have HY18 : Hid _ := Y18
    have HMD18 : Hid _ := MD18
    clear IM q17 B17 W17 OW17 Y17 MD17 N17 B18 W18 OW18 Y18 MD18 V18 O18 O17 HB16 HW16 HOW16 HY16 HMD16
    go_wp2_with fail
    generalize hX18 : (w17.alloc (gb (.slice t1 t2 t3) (.slice t4 t5 t6) (.slice t7 t8 t9) R.next R.seed)) = X18 at *
    clear hX18
    refine EQ.mono ?_
    rintro e w19 ⟨rfl, q19⟩
    have B19 := HB18.out.trans (q19.mono HB18.out.size)
    have Y19 := five_below HY18.out q19
    have HE := heldGraph_any R.next R.seed (marked_below HMD18.out q19) (by decide)
    rw [show ((1 : Nat) : Int) = 1 from rfl] at HE
    clear EQ q19 HB18 HY18 HMD18 y0 y1 y2 y3 y4 v0 v1 v2 v3 v4
    obtain ⟨y0, y1, y2, y3, y4, _⟩ := five_cells Y19
    have HB19 : Hid _ := B19
    clear B19 Y19
    go_wp2_with fail
    refine HE.mono ?_
    rintro e w20 ⟨rfl, q20⟩
    have HB20 : Hid _ := HB19.out.trans (q20.mono HB19.out.size)
    clear HE q20 HB19
    go_wp2
    go_ret
    exact ⟨rfl, HB20⟩
end Go.Proofs.Ytdogibjgogcdkal.gr
namespace Go.Proofs.Ytdogibjgogcdkal.copyk
open Go.RowKit

theorem run_copy_k {P : Program} (w : World) (dT sT ty elem : TypeId) (sz : Nat) (hz : 0 < sz) (hu : P.underlying dT = some (.slice elem)) (hs : (P.info? elem).map (·.size) = some sz)
    (dp sp : Option Addr) (dLen dCap sLen sCap : Nat) (g off : Nat) (cur : List Value) (t : TypeId) (hg : w.heap[g]? = some (.cells cur.toArray t (0, 0))) (cs : List Value) (hn : cs.length = Nat.min sLen dLen * sz)
    (hpos : 0 < cs.length → dp = some ⟨g, off, none⟩ ∧ ∃ ad, sp = some ad ∧ ∀ j v, cs[j]? = some v → w.cell? (ad.add j) = some v)
    (hfit : off + cs.length ≤ cur.length) (h1 : ∀ v ∈ cs, v.oneCell' = true) :
    (Builtin.copy_ #[dT, sT] ty #[.slice dp dLen dCap, .slice sp sLen sCap]).run P w = .ok (goInt (Nat.min sLen dLen)) (w.setRow g (splice cur off cs).toArray) := by
  cases hq : P.info? elem with
  | none => simp [hq] at hs
  | some i =>
    have hi : i.size = sz := by simpa [hq] using hs
    by_cases h0 : cs.length = 0
    · obtain rfl : cs = [] := List.eq_nil_of_length_eq_zero h0
      have hm : Nat.min sLen dLen = 0 := by
        rcases Nat.mul_eq_zero.1 hn.symm with h | h
        · exact h
        · omega
      have e : w.setRow g (splice cur off []).toArray = w := by
        have := setRow_self w g cur.toArray t (0, 0) hg
        simpa [splice] using this
      rw [e, hm]
      have hl : ∀ (x : Addr), (loadCells x 0).run P w = .ok #[] w := fun x => by simpa using run_loadCells_list (P := P) w x [] (by simp)
      cases dp <;> cases sp <;> simp [Builtin.copy_, run_underlying hu, Builtin.lenOf, Builtin.firstCells, sizeOf, typeInfo, hq, hm, storeCells, hl]
    · obtain ⟨rfl, ad, rfl, hsrc⟩ := hpos (by omega)
      have hl := run_loadCells_list (P := P) w ad cs hsrc
      have hst := run_storeCells_at P g off t cs 0 cur.toArray w hg (by simpa using hfit) h1
      rw [hn] at hl
      simp [Builtin.copy_, run_underlying hu, Builtin.lenOf, Builtin.firstCells, sizeOf, typeInfo, hq, hi, hl, hst, splice]

theorem setRow_below {B g : Nat} {w0 w : World} (hb : Below B w0 w) (hBg : B ≤ g) (cs : Array Value) : Below B w0 (w.setRow g cs) := below_setRow hb hBg cs

theorem wpList_copy_k {P : Program} {w : World} {ops : Array Oper} {rest : List Oper} {o : Oper} {a : Act} {Q : Exit → Act → World → Prop} (hgd : o.guard = none) (d s : Operand) (dT sT : TypeId)
    (ho : o.op = .call { callee := .builtin .copy, args := #[d, s], argTypes := #[dT, sT] }) (elem : TypeId) (sz : Nat) (hz : 0 < sz) (hu : P.underlying dT = some (.slice elem)) (hsz : (P.info? elem).map (·.size) = some sz)
    (dp sp : Option Addr) (dLen dCap sLen sCap : Nat) (hd : a.eval d = .slice dp dLen dCap) (hs : a.eval s = .slice sp sLen sCap)
    (g off : Nat) (cur : List Value) (t : TypeId) (hg : w.heap[g]? = some (.cells cur.toArray t (0, 0))) (cs : List Value) (hn : cs.length = Nat.min sLen dLen * sz)
    (hpos : 0 < cs.length → dp = some ⟨g, off, none⟩ ∧ ∃ ad, sp = some ad ∧ ∀ j v, cs[j]? = some v → w.cell? (ad.add j) = some v)
    (hfit : off + cs.length ≤ cur.length) (h1 : ∀ v ∈ cs, v.oneCell' = true) (B : Nat) (w0 : World) (hb : Below B w0 w) (hBg : B ≤ g)
    (h : ∀ w', Hid (w'.heap[g]? = some (.cells (splice cur off cs).toArray t (0, 0))) → Hid (∀ k, k ≠ g → w'.heap[k]? = w.heap[k]?) → Below B w0 w' → wpList P ops Q rest (a.put o.dst (goInt (Nat.min sLen dLen))) w') :
    wpList P ops Q (o :: rest) a w := by
  refine wpList_plain hgd fun K hK => ?_
  have hrun := run_copy_k (P := P) w dT sT o.type elem sz hz hu hsz dp sp dLen dCap sLen sCap g off cur t hg cs hn hpos hfit h1
  unfold Oper.wp
  simp [execOp, ho, resolve, invoke, builtin, hd, hs, hrun, Result.andThen]
  refine hK _ _ ?_
  have := h (w.setRow g (splice cur off cs).toArray) (setRow_heap w g _ _ t _ hg) (fun k hk => setRow_other w g k _ hk) (below_setRow hb hBg _)
  exact this

theorem step_copy_k {P : Program} {ops : Array Oper} {o : Oper} {a : Act} {w : World} {K : Act → World → Prop} {Q : Exit → Act → World → Prop} {E : Prop} (hgd : o.guard = none) (d s : Operand) (dT sT : TypeId)
    (ho : o.op = .call { callee := .builtin .copy, args := #[d, s], argTypes := #[dT, sT] }) (elem : TypeId) (sz : Nat) (hz : 0 < sz) (hu : P.underlying dT = some (.slice elem)) (hsz : (P.info? elem).map (·.size) = some sz)
    (dp sp : Option Addr) (dLen dCap sLen sCap : Nat) (hd : a.eval d = .slice dp dLen dCap) (hs : a.eval s = .slice sp sLen sCap)
    (g off : Nat) (cur : List Value) (t : TypeId) (hg : w.heap[g]? = some (.cells cur.toArray t (0, 0))) (cs : List Value) (hn : cs.length = Nat.min sLen dLen * sz)
    (hpos : 0 < cs.length → dp = some ⟨g, off, none⟩ ∧ ∃ ad, sp = some ad ∧ ∀ j v, cs[j]? = some v → w.cell? (ad.add j) = some v)
    (hfit : off + cs.length ≤ cur.length) (h1 : ∀ v ∈ cs, v.oneCell' = true) (B : Nat) (w0 : World) (hb : Below B w0 w) (hBg : B ≤ g)
    (h : ∀ w', Hid (w'.heap[g]? = some (.cells (splice cur off cs).toArray t (0, 0))) → Hid (∀ k, k ≠ g → w'.heap[k]? = w.heap[k]?) → Below B w0 w' → K (a.put o.dst (goInt (Nat.min sLen dLen))) w') :
    if Region.wanted o (yielded ops a.tmps) = true then Oper.wp P o a w K Q else E := by
  have hw : Region.wanted o (yielded ops a.tmps) = true := by simp [Region.wanted, hgd]
  rw [if_pos hw]
  have hrun := run_copy_k (P := P) w dT sT o.type elem sz hz hu hsz dp sp dLen dCap sLen sCap g off cur t hg cs hn hpos hfit h1
  unfold Oper.wp
  simp [execOp, ho, resolve, invoke, builtin, hd, hs, hrun, Result.andThen]
  exact h (w.setRow g (splice cur off cs).toArray) (setRow_heap w g _ _ t _ hg) (fun k hk => setRow_other w g k _ hk) (below_setRow hb hBg _)

/-- 'clear(s)': the zero value's cells, over and over. -/
theorem run_clear_k {P : Program} (w : World) (t e ty : TypeId) (z : Value) (sz : Nat) (hu : P.underlying t = some (.slice e)) (hv : ∀ w, (zeroValue e).run P w = .ok z w)
    (ap : Option Addr) (n c : Nat) (g off : Nat) (cur : List Value) (ct : TypeId) (hg : w.heap[g]? = some (.cells cur.toArray ct (0, 0))) (hpos : 0 < n → ap = some ⟨g, off, none⟩)
    (hl : (Builtin.zeroCells z.cells n).toList.length = n * sz) (h1 : ∀ v ∈ (Builtin.zeroCells z.cells n).toList, v.oneCell' = true) (hfit : off + n * sz ≤ cur.length) :
    ∃ w', (Builtin.clear_ #[t] ty #[.slice ap n c]).run P w = .ok (.tuple #[]) w' ∧ w'.heap[g]? = some (.cells (if n = 0 then cur else splice cur off (Builtin.zeroCells z.cells n).toList).toArray ct (0, 0)) ∧ (∀ k, k ≠ g → w'.heap[k]? = w.heap[k]?) ∧ ∀ {B : Nat} {w0 : World}, Below B w0 w → B ≤ g → Below B w0 w' := by
  cases n with
  | zero =>
    refine ⟨w, ?_, by simpa using hg, fun _ _ => rfl, fun h _ => h⟩
    cases ap <;> simp [Builtin.clear_, run_underlying hu]
  | succ n =>
    obtain rfl := hpos (by omega)
    have hst := run_storeCells_at P g off ct (Builtin.zeroCells z.cells (n + 1)).toList 0 cur.toArray w hg (by rw [hl]; simpa using hfit) h1
    refine ⟨w.setRow g (splice cur off (Builtin.zeroCells z.cells (n + 1)).toList).toArray, ?_, ?_, fun k hk => setRow_other w g k _ hk, fun h h' => below_setRow h h' _⟩
    · simp only [Builtin.clear_]
      simp [run_underlying hu, hv, hst, splice]
    · simpa using setRow_heap w g _ (splice cur off (Builtin.zeroCells z.cells (n + 1)).toList).toArray ct _ hg
end Go.Proofs.Ytdogibjgogcdkal.copyk
namespace Go.Proofs.Ytdogibjgogcdkal.gr
open Go.RowKit rows heads
set_option maxRecDepth 100000

theorem infoSizeR : (Try.prog.info? 80).map (·.size) = some 2 := by kernel_rfl
theorem infoSizeO : (Try.prog.info? 51).map (·.size) = some 5 := by kernel_rfl
theorem splice_allR {L cs : List Value} (h : cs.length = L.length) : splice L 0 cs = cs := by simp [splice, h]
theorem srcR_of {w : World} {a : Option Addr} {cap : Nat} {es : List Rf} (h : RefsAt w (.slice a es.length cap) es) (hp : 0 < es.length) : ∃ ad, a = some ad ∧ ∀ j v, (cellsR es)[j]? = some v → w.cell? (ad.add j) = some v := by
  have h' := h
  obtain ⟨a', cap', e, _, _, _, hc⟩ := h
  injection e with e1 e2 e3
  subst e1
  obtain ⟨b, off, rfl, _⟩ := hc hp
  exact ⟨_, rfl, refs_news h'⟩
theorem objs_news {w : World} {ad : Addr} {n cap : Nat} {ms : List MO} (h : OrowAt w (.slice (some ad) n cap) ms) : ∀ j u, (cellsO ms)[j]? = some u → w.cell? (ad.add j) = some u := by
  intro j u hj
  obtain ⟨a', cap', e, _, _, _, hc⟩ := h
  injection e with e1 e2 e3
  subst e1
  have hlt : j < ms.length * 5 := by
    have := (List.getElem?_eq_some_iff.1 hj).1
    rw [cellsO_length] at this
    exact this
  obtain ⟨b, off, e1, _, hcc⟩ := hc (by omega)
  injection e1 with e1
  subst e1
  obtain ⟨d0, d1, d2, d3, d4⟩ := hcc (j / 5) (by omega)
  obtain ⟨c0, c1, c2, c3, c4⟩ := cellsO_at ms (j / 5) (by omega)
  have hadd : (⟨b, off, none⟩ : Addr).add j = ⟨b, off + j, none⟩ := by unfold Addr.add; split <;> simp_all
  rw [hadd]
  rcases (show j % 5 = 0 ∨ j % 5 = 1 ∨ j % 5 = 2 ∨ j % 5 = 3 ∨ j % 5 = 4 by omega) with hm | hm | hm | hm | hm
  · have ej : j / 5 * 5 = j := by omega
    have eo : off + j / 5 * 5 = off + j := by omega
    rw [ej] at c0; rw [eo] at d0
    rw [c0] at hj; rw [← hj]; exact d0
  · have ej : j / 5 * 5 + 1 = j := by omega
    have eo : off + j / 5 * 5 + 1 = off + j := by omega
    rw [ej] at c1; rw [eo] at d1
    rw [c1] at hj; rw [← hj]; exact d1
  · have ej : j / 5 * 5 + 2 = j := by omega
    have eo : off + j / 5 * 5 + 2 = off + j := by omega
    rw [ej] at c2; rw [eo] at d2
    rw [c2] at hj; rw [← hj]; exact d2
  · have ej : j / 5 * 5 + 3 = j := by omega
    have eo : off + j / 5 * 5 + 3 = off + j := by omega
    rw [ej] at c3; rw [eo] at d3
    rw [c3] at hj; rw [← hj]; exact d3
  · have ej : j / 5 * 5 + 4 = j := by omega
    have eo : off + j / 5 * 5 + 4 = off + j := by omega
    rw [ej] at c4; rw [eo] at d4
    rw [c4] at hj; rw [← hj]; exact d4
theorem srcO_of {w : World} {a : Option Addr} {cap : Nat} {ms : List MO} (h : OrowAt w (.slice a ms.length cap) ms) (hp : 0 < ms.length) : ∃ ad, a = some ad ∧ ∀ j v, (cellsO ms)[j]? = some v → w.cell? (ad.add j) = some v := by
  have h' := h
  obtain ⟨a', cap', e, _, _, _, hc⟩ := h
  injection e with e1 e2 e3
  subst e1
  obtain ⟨b, off, rfl, _⟩ := hc hp
  exact ⟨_, rfl, objs_news h'⟩
/-- What a made row holds, whatever it is: so many cells. -/
theorem own_cellsR {w : World} {base g n sz : Nat} {e : TypeId} {cs : List Value} (h : w.ownsRow base e sz (.slice (some ⟨g, 0, none⟩) n n) n cs) : w.heap[g]? = some (.cells cs.toArray e (0, 0)) ∧ cs.length = n * sz := by
  obtain ⟨h0, ⟨h1, _⟩ | ⟨g', cap, cur, h1, hg, hh, hle, hm, hs, ht⟩⟩ := h
  · cases h1
  · injection h1 with e1 e2 e3
    injection e1 with e1
    injection e1 with e1
    subst e1 e3
    refine ⟨?_, h0⟩
    rw [hh]
    rw [List.take_of_length_le (by simpa using Nat.le_of_eq hs)] at ht
    rw [← ht]

theorem copiedR_any {w : World} {v : Value} {es : List Rf} (h : RefsAt w v es) (hl : es.length ≤ 1048576) :
    Calls Try.prog 101 #[v] w fun e w' => e = .returned (.slice (some ⟨w.heap.size, 0, none⟩) es.length es.length) ∧ FullR w' w.heap.size es ∧ Below w.heap.size w w' := by
  have h' := h
  obtain ⟨a, cap, rfl, hlc, hcm, _, hc⟩ := h
  obtain ⟨i0, hi, hz0, hz1, hz2⟩ := info_parts infoR
  clear hc
  go_enter Try.func101, Try.ntmps101
  go_upto_region 2 with (at_make; refine wpList_make_full _ rfl _ _ 30 rfl w.heap.size 80 i0 (.agg #[.int .i64 0, .int .i64 0]) 2 Try.underlying30 hi hz0 hz1 _ _ _ _ es.length rfl rfl rfl rfl (by rw [hz2]; omega) (by unfold maxLen; omega) (Nat.le_refl _) ?_; intro w1 hown hgrow)
  obtain ⟨F0, l0⟩ := own_cellsR hown
  have B0 : Below w.heap.size w w1 := (Below.refl _ _).grown hgrow (Nat.le_refl _) (fun k e => by cases e)
  have SRC := srcR_of (refsAt_below h' B0)
  have hn : (cellsR es).length = Nat.min es.length es.length * 2 := by rw [show Nat.min es.length es.length = es.length from Nat.min_self _, cellsR_length]
  have hp0 : 0 < (cellsR es).length → some (⟨w.heap.size, 0, none⟩ : Addr) = some ⟨w.heap.size, 0, none⟩ ∧ ∃ ad, a = some ad ∧ ∀ j v, (cellsR es)[j]? = some v → w1.cell? (ad.add j) = some v := fun hp => ⟨rfl, SRC (by rw [cellsR_length] at hp; omega)⟩
  generalize (madeCells (Value.agg #[.int .i64 0, .int .i64 0]).cells (es.length * 2)).toList = L at *
  have hfit : 0 + (cellsR es).length ≤ L.length := by rw [cellsR_length, l0]; omega
  have HL : Hid ((cellsR es).length = L.length) := by show _ = _; rw [cellsR_length, l0]
  have HN : Hid _ := hn
  have HF : Hid _ := hfit
  have HP : Hid _ := hp0
  have HF0 : Hid _ := F0
  clear hown hgrow hn hfit hp0 F0 SRC l0
  go_wp2_with (refine copyk.wpList_copy_k rfl (.tmp 7) (.tmp 8) 30 30 rfl 80 2 (by decide) Try.underlying30 infoSizeR (some ⟨w.heap.size, 0, none⟩) a es.length es.length es.length cap rfl rfl w.heap.size 0 L 80 HF0.out (cellsR es) HN.out HP.out HF.out (cellsR_one _) w.heap.size w B0 (Nat.le_refl _) ?_; intro w2 hF hO hB)
  have F2 : FullR w2 w.heap.size es := by
    have := hF.out
    rw [splice_allR HL.out] at this
    exact this
  go_ret
  exact ⟨rfl, F2, hB⟩

theorem copiedO_any {w : World} {v : Value} {ms : List MO} (h : OrowAt w v ms) (hsl : Slices ms) (hl : ms.length ≤ 1048576) :
    Calls Try.prog 102 #[v] w fun e w' => e = .returned (.slice (some ⟨w.heap.size, 0, none⟩) ms.length ms.length) ∧ FullO w' w.heap.size ms ∧ Below w.heap.size w w' := by
  have h' := h
  obtain ⟨a, cap, rfl, hlc, hcm, _, hc⟩ := h
  obtain ⟨i0, hi, hz0, hz1, hz2⟩ := info_parts infoO
  clear hc
  go_enter Try.func102, Try.ntmps102
  go_upto_region 2 with (at_make; refine wpList_make_full _ rfl _ _ 29 rfl w.heap.size 51 i0 (.agg #[.int .i64 0, .int .i64 0, .int .i64 0, .int .i64 0, .slice none 0 0]) 5 Try.underlying29 hi hz0 hz1 _ _ _ _ ms.length rfl rfl rfl rfl (by rw [hz2]; omega) (by unfold maxLen; omega) (Nat.le_refl _) ?_; intro w1 hown hgrow)
  obtain ⟨F0, l0⟩ := own_cellsR hown
  have B0 : Below w.heap.size w w1 := (Below.refl _ _).grown hgrow (Nat.le_refl _) (fun k e => by cases e)
  have SRC := srcO_of (orowAt_below h' B0)
  have hn : (cellsO ms).length = Nat.min ms.length ms.length * 5 := by rw [show Nat.min ms.length ms.length = ms.length from Nat.min_self _, cellsO_length]
  have hp0 : 0 < (cellsO ms).length → some (⟨w.heap.size, 0, none⟩ : Addr) = some ⟨w.heap.size, 0, none⟩ ∧ ∃ ad, a = some ad ∧ ∀ j v, (cellsO ms)[j]? = some v → w1.cell? (ad.add j) = some v := fun hp => ⟨rfl, SRC (by rw [cellsO_length] at hp; omega)⟩
  generalize (madeCells (Value.agg #[.int .i64 0, .int .i64 0, .int .i64 0, .int .i64 0, .slice none 0 0]).cells (ms.length * 5)).toList = L at *
  have hfit : 0 + (cellsO ms).length ≤ L.length := by rw [cellsO_length, l0]; omega
  have HL : Hid ((cellsO ms).length = L.length) := by show _ = _; rw [cellsO_length, l0]
  have HN : Hid _ := hn
  have HF : Hid _ := hfit
  have HP : Hid _ := hp0
  have HF0 : Hid _ := F0
  have H1 : Hid _ := cellsO_one hsl
  clear hown hgrow hn hfit hp0 F0 SRC l0
  go_wp2_with (refine copyk.wpList_copy_k rfl (.tmp 7) (.tmp 8) 29 29 rfl 51 5 (by decide) Try.underlying29 infoSizeO (some ⟨w.heap.size, 0, none⟩) a ms.length ms.length ms.length cap rfl rfl w.heap.size 0 L 51 HF0.out (cellsO ms) HN.out HP.out HF.out H1.out w.heap.size w B0 (Nat.le_refl _) ?_; intro w2 hF hO hB)
  have F2 : FullO w2 w.heap.size ms := by
    have := hF.out
    rw [splice_allR HL.out] at this
    exact this
  go_ret
  exact ⟨rfl, F2, hB⟩
end Go.Proofs.Ytdogibjgogcdkal.gr
namespace Go.Proofs.Ytdogibjgogcdkal.gr
open Go.RowKit rows heads
set_option maxRecDepth 100000

theorem cellsO_sv : ∀ (ms : List MO) (k : Nat) (v : Value), k < ms.length → (cellsO ms).set (k * 5 + 4) v = cellsO (ms.set k { ms.getD k moD with sv := v })
  | [], _, _, h => by simp at h
  | m :: ms, 0, v, _ => by simp [cellsO]
  | m :: ms, k + 1, v, h => by
    have := cellsO_sv ms k v (by simpa using h)
    rw [show (k + 1) * 5 + 4 = k * 5 + 4 + 1 + 1 + 1 + 1 + 1 by omega]
    simpa [cellsO] using this
theorem fullO_sv {w : World} {b : Nat} {ms : List MO} (h : FullO w b ms) {k : Nat} (hk : k < ms.length) (v : Value) : FullO (w.setCell ⟨b, k * 5 + 4, none⟩ v) b (ms.set k { ms.getD k moD with sv := v }) := by
  refine (cells_setCell h (k * 5 + 4) v).trans ?_
  rw [← cellsO_sv ms k v hk]
  simp
theorem fullR_ch {S : List Nat} {w w' : World} {b : Nat} {es : List Rf} (h : FullR w b es) (hc : Ch S w w') (hb : b ∉ S) : FullR w' b es := (hc.block b (lt_of_block h) hb).trans h

/-- A copy under way: k objects have lists of their own. -/
structure CG (w : World) (n0 P R q1 q2 q3 : Nat) (ms : List MO) (G : Gr) (k : Nat) (ns : List MO) (wr : World) : Prop where
  len : ns.length = ms.length
  abs : ns.map MO.abs = ms.map MO.abs
  full : FullO wr q3 ns
  own : ∀ i, i < k → OwnR wr n0 (ns.getD i moD).sv (ns.getD i moD).slots
  rest : ∀ i, k ≤ i → i < ms.length → ns.getD i moD = ms.getD i moD
  nd : ([P, R, q1, q2, q3] ++ blks (ns.take k)).Nodup
  lt : ∀ x ∈ [P, R, q1, q2, q3] ++ blks (ns.take k), n0 ≤ x ∧ x < wr.heap.size
  gr : Five wr P 32 (.slice (some ⟨q3, 0, none⟩) ms.length ms.length) (.slice (some ⟨q1, 0, none⟩) G.roots.length G.roots.length) (.slice (some ⟨q2, 0, none⟩) G.mourned.length G.mourned.length) (.int .i64 G.next) (.int .i64 G.seed)
  res : Five wr R 32 (.slice none 0 0) (.slice none 0 0) (.slice none 0 0) (.int .i64 0) (.int .i64 0)
  r1 : FullR wr q1 G.roots
  r2 : FullR wr q2 G.mourned
  bel : Below n0 w wr

theorem take_set_succ {ns : List MO} {k : Nat} (hk : k < ns.length) (m : MO) : (ns.set k m).take (k + 1) = ns.take k ++ [m] := by
  rw [List.take_add_one, List.take_set_of_le (Nat.le_refl _)]
  simp [hk]

theorem CG.step {w : World} {n0 P R q1 q2 q3 : Nat} {ms : List MO} {G : Gr} {k : Nat} {ns : List MO} {wr w2 : World} (h : CG w n0 P R q1 q2 q3 ms G k ns wr) (hk : k < ms.length) (hn : n0 ≤ wr.heap.size)
    (hl : (ms.getD k moD).slots.length ≤ maxLen) (b2 : Below wr.heap.size wr w2) (F2 : FullR w2 wr.heap.size (ms.getD k moD).slots) :
    ∃ ns', CG w n0 P R q1 q2 q3 ms G (k + 1) ns' (w2.setCell ⟨q3, k * 5 + 4, none⟩ (.slice (some ⟨wr.heap.size, 0, none⟩) (ms.getD k moD).slots.length (ms.getD k moD).slots.length)) := by
  generalize hv : Value.slice (some ⟨wr.heap.size, 0, none⟩) (ms.getD k moD).slots.length (ms.getD k moD).slots.length = v
  have hkn : k < ns.length := by rw [h.len]; exact hk
  have hxk := h.rest k (Nat.le_refl _) hk
  have CH := one_ch w2 q3 (k * 5 + 4) v
  have hq3 : q3 < wr.heap.size := (h.lt q3 (by simp)).2
  have nd := h.nd
  have eb : blk v = [wr.heap.size] := by rw [← hv]; rfl
  have hget : ∀ i, i < ms.length → (ns.set k { ns.getD k moD with sv := v }).getD i moD = if i = k then { ns.getD k moD with sv := v } else ns.getD i moD := fun i hi => by
    rw [List.getD_eq_getElem?_getD, List.getElem?_set]
    by_cases e : k = i
    · subst e
      simp [hkn]
    · rw [if_neg e, if_neg (fun e' => e e'.symm), List.getD_eq_getElem?_getD]
  have etk : blks ((ns.set k { ns.getD k moD with sv := v }).take (k + 1)) = blks (ns.take k) ++ [wr.heap.size] := by
    rw [take_set_succ hkn, blks_snoc]
    show _ ++ blk v = _
    rw [eb]
  have ne3 : ∀ x, x = P ∨ x = R ∨ x = q1 ∨ x = q2 ∨ x ∈ blks (ns.take k) ∨ x = wr.heap.size → x ≠ q3 := by
    intro x hx e
    subst e
    simp only [List.cons_append, List.nil_append, List.nodup_cons, List.mem_cons, not_or] at nd
    rcases hx with hx | hx | hx | hx | hx | hx
    · exact nd.1.2.2.2.1 hx.symm
    · exact nd.2.1.2.2.1 hx.symm
    · exact nd.2.2.1.2.1 hx.symm
    · exact nd.2.2.2.1.1 hx.symm
    · exact nd.2.2.2.2.1 hx
    · omega
  have notS : ∀ x, x ≠ q3 → x ∉ [q3] := fun x hx e => hx (List.mem_singleton.1 e)
  refine ⟨ns.set k { ns.getD k moD with sv := v }, by rw [List.length_set]; exact h.len, ?_, fullO_sv (fullO_below h.full b2) hkn v, fun i hi => ?_, fun i h1 h2 => ?_, ?_, fun x hx => ?_, ?_, ?_, ?_, ?_, ?_⟩
  · rw [← h.abs]
    apply List.ext_getElem?
    intro i
    rw [List.getElem?_map, List.getElem?_map, List.getElem?_set]
    by_cases e : k = i
    · subst e
      rw [if_pos rfl, if_pos hkn, getD_getElem? hkn]
      rfl
    · rw [if_neg e]
  · rw [hget i (by omega)]
    by_cases e : i = k
    · subst e
      rw [if_pos rfl]
      show OwnR _ _ v (ns.getD i moD).slots
      have F3 := fullR_own (fullR_ch F2 CH (notS _ (ne3 _ (.inr (.inr (.inr (.inr (.inr rfl)))))))) hn hl
      rw [hv] at F3
      rw [hxk]
      exact F3
    · rw [if_neg e]
      have hi' : i < k := by omega
      refine row_ch (ownR_below (h.own i hi') b2) CH (fun x hx => notS x (ne3 x (.inr (.inr (.inr (.inr (.inl ?_)))))))
      simp only [blks, List.mem_flatMap]
      refine ⟨ns.getD i moD, ?_, hx⟩
      rw [List.mem_take_iff_getElem]
      exact ⟨i, by omega, by rw [List.getD_eq_getElem?_getD, List.getElem?_eq_getElem (by omega)]; rfl⟩
  · rw [hget i h2, if_neg (by omega)]
    exact h.rest i (by omega) h2
  · rw [etk, ← List.append_assoc, List.nodup_append]
    refine ⟨nd, by simp, fun a ha b hb e => ?_⟩
    have := (h.lt a ha).2
    rw [List.mem_singleton] at hb
    omega
  · rw [etk, ← List.append_assoc, List.mem_append] at hx
    have sz : (w2.setCell ⟨q3, k * 5 + 4, none⟩ v).heap.size = w2.heap.size := by simp
    have l2 := lt_of_block F2
    rcases hx with hx | hx
    · have := h.lt x hx
      have := b2.size
      omega
    · rw [List.mem_singleton] at hx
      omega
  · exact five_ch (five_below h.gr b2) CH (notS _ (ne3 _ (.inl rfl)))
  · exact five_ch (five_below h.res b2) CH (notS _ (ne3 _ (.inr (.inl rfl))))
  · exact fullR_ch (fullR_below h.r1 b2) CH (notS _ (ne3 _ (.inr (.inr (.inl rfl)))))
  · exact fullR_ch (fullR_below h.r2 b2) CH (notS _ (ne3 _ (.inr (.inr (.inr (.inl rfl))))))
  · exact (h.bel.trans (b2.mono hn)).setCell (p := ⟨q3, k * 5 + 4, none⟩) (h.lt q3 (by simp)).1 v

theorem CG.done {w : World} {n0 P R q1 q2 q3 : Nat} {ms : List MO} {G : Gr} {ns : List MO} {wr : World} (h : CG w n0 P R q1 q2 q3 ms G ms.length ns wr) (ea : ms.map MO.abs = G.objs) (l1 : ms.length ≤ maxLen) (l2 : G.roots.length ≤ maxLen) (l3 : G.mourned.length ≤ maxLen) :
    OwnG wr n0 (.slice (some ⟨q3, 0, none⟩) ms.length ms.length) (.slice (some ⟨q1, 0, none⟩) G.roots.length G.roots.length) (.slice (some ⟨q2, 0, none⟩) G.mourned.length G.mourned.length) ns G := by
  have et : ns.take ms.length = ns := by rw [← h.len, List.take_length]
  have nd := h.nd
  rw [et] at nd
  have lt := h.lt
  rw [et] at lt
  simp only [List.cons_append, List.nil_append, List.nodup_cons, List.mem_cons, not_or] at nd
  obtain ⟨_, _, ⟨a1, a2, a3⟩, ⟨b1, b2⟩, c1, c2⟩ := nd
  refine ⟨h.abs.trans ea, ⟨?_, fun m hm => ?_, ?_⟩, fullR_own h.r1 (lt q1 (by simp)).1 l2, fullR_own h.r2 (lt q2 (by simp)).1 l3, ?_⟩
  · have := fullO_own h.full (lt q3 (by simp)).1 (by rw [h.len]; exact l1)
    rw [h.len] at this
    exact this
  · obtain ⟨i, hi, rfl⟩ := List.getElem_of_mem hm
    have := h.own i (by rw [← h.len]; exact hi)
    rw [List.getD_eq_getElem?_getD, List.getElem?_eq_getElem hi] at this
    exact this
  · show ([q3] ++ blks ns).Nodup
    rw [List.singleton_append, List.nodup_cons]
    exact ⟨c1, c2⟩
  · show ([q3] ++ blks ns ++ [q1] ++ [q2]).Nodup
    simp only [List.nodup_append, List.mem_append, List.mem_singleton]
    refine ⟨⟨⟨by simp, c2, fun a ha b hb e => ?_⟩, by simp, fun a ha b hb e => ?_⟩, by simp, fun a ha b hb e => ?_⟩
    · subst ha e; exact c1 hb
    · subst hb e
      rcases ha with ha | ha
      · exact a2 ha
      · exact a3 ha
    · subst hb e
      rcases ha with (ha | ha) | ha
      · exact b1 ha
      · exact b2 ha
      · exact a1 ha.symm

set_option maxHeartbeats 8000000 in
theorem copiedGraph_any {w : World} {o r m : Value} {ms : List MO} {G : Gr} (h : GraphAt w o r m ms G) (hs : gSize ms G ≤ 1048576) :
    Calls Try.prog 80 #[gv o r m G.next G.seed] w fun e w' => ∃ o' r' m' ns, e = .returned (gv o' r' m' G.next G.seed) ∧ OwnG w' w.heap.size o' r' m' ns G ∧ Below w.heap.size w w' := by
  have hss := gSize_slots hs
  have hsz : ms.length ≤ 1048576 ∧ G.roots.length ≤ 1048576 ∧ G.mourned.length ≤ 1048576 := by unfold gSize at hs; omega
  have hmx : (1048576 : Nat) ≤ maxLen := by decide
  have h0 := h
  obtain ⟨a1, n1, c1, a2, n2, c2, a3, n3, c3, e1, e2, e3⟩ := graphAt_slices h
  subst e1 e2 e3
  obtain ⟨ea, hO, hR, hM⟩ := h
  have hsl := objs_slices hO
  have HO : Hid _ := hO
  have HR : Hid _ := hR
  have HM : Hid _ := hM
  have HSL : Hid _ := hsl
  have HSS : Hid _ := hss
  have HEA : Hid _ := ea
  have HSZ : Hid _ := hsz
  clear hO hR hM hsl ea h0 hss hs
  generalize hn0 : w.heap.size = n0
  have B0 : Below n0 w ((w.alloc (gb (.slice a1 n1 c1) (.slice a2 n2 c2) (.slice a3 n3 c3) G.next G.seed)).alloc (gb (.slice none 0 0) (.slice none 0 0) (.slice none 0 0) 0 0)) := ((Below.refl _ w).alloc (by omega) _).alloc (by simp; omega) _
  have TP : Five ((w.alloc (gb (.slice a1 n1 c1) (.slice a2 n2 c2) (.slice a3 n3 c3) G.next G.seed)).alloc (gb (.slice none 0 0) (.slice none 0 0) (.slice none 0 0) 0 0)) n0 32 (.slice a1 n1 c1) (.slice a2 n2 c2) (.slice a3 n3 c3) (.int .i64 G.next) (.int .i64 G.seed) := by
    rw [← hn0]
    exact five_below (five_new w _ _ _ _ _ _) ((Below.refl _ _).alloc (Nat.le_refl _) _)
  have TR : Five ((w.alloc (gb (.slice a1 n1 c1) (.slice a2 n2 c2) (.slice a3 n3 c3) G.next G.seed)).alloc (gb (.slice none 0 0) (.slice none 0 0) (.slice none 0 0) 0 0)) (n0 + 1) 32 (.slice none 0 0) (.slice none 0 0) (.slice none 0 0) (.int .i64 0) (.int .i64 0) := by
    have := five_new (w.alloc (gb (.slice a1 n1 c1) (.slice a2 n2 c2) (.slice a3 n3 c3) G.next G.seed)) 32 (.slice none 0 0) (.slice none 0 0) (.slice none 0 0) (.int .i64 0) (.int .i64 0)
    rw [← hn0]
    simpa using this
  have BW : ∀ {X : World}, Below n0 w X → Below w.heap.size w X := fun hb => by rw [hn0]; exact hb
  have HBW : Hid _ := @BW
  clear BW
  go_enter Try.func80, Try.ntmps80
  go_wp2_with fail
  have C1 := copiedR_any (refsAt_below HR.out (HBW.out B0)) HSZ.out.2.1
  have hX : n0 + 2 ≤ ((w.alloc (gb (.slice a1 n1 c1) (.slice a2 n2 c2) (.slice a3 n3 c3) G.next G.seed)).alloc (gb (.slice none 0 0) (.slice none 0 0) (.slice none 0 0) 0 0)).heap.size := by simp; omega
  generalize ((w.alloc (gb (.slice a1 n1 c1) (.slice a2 n2 c2) (.slice a3 n3 c3) G.next G.seed)).alloc (gb (.slice none 0 0) (.slice none 0 0) (.slice none 0 0) 0 0)) = X at *
  refine C1.mono ?_
  rintro e w1 ⟨rfl, F1, b1⟩
  clear C1
  generalize hq1 : X.heap.size = q1 at *
  have B1 := B0.trans (b1.mono (by omega))
  have TP1 := five_below TP (by rw [hq1]; exact b1)
  have TR1 := five_below TR (by rw [hq1]; exact b1)
  have l1 := lt_of_block F1
  obtain ⟨z0, z1, z2, z3, z4, zf⟩ := five_cells TP1
  have f1 := zf 1
  have CH1 := one_ch w1 n0 1 (.slice (some ⟨q1, 0, none⟩) G.roots.length G.roots.length)
  have HTP : Hid _ := five_set1 TP1 (.slice (some ⟨q1, 0, none⟩) G.roots.length G.roots.length)
  have HTR : Hid _ := five_ch TR1 CH1 (by simp)
  have HF1 : Hid _ := fullR_ch F1 CH1 (by simp; omega)
  have HB1 : Hid _ := B1.setCell (p := ⟨n0, 1, none⟩) (Nat.le_refl _) (.slice (some ⟨q1, 0, none⟩) G.roots.length G.roots.length)
  have hY : q1 < (w1.setCell ⟨n0, 1, none⟩ (.slice (some ⟨q1, 0, none⟩) G.roots.length G.roots.length)).heap.size := by simpa using l1
  clear TP TR B0 b1 F1 B1 TP1 TR1 CH1 zf l1
  go_wp2_with fail
  have C2 := copiedR_any (refsAt_below HM.out (HBW.out HB1.out)) HSZ.out.2.2
  generalize (w1.setCell ⟨n0, 1, none⟩ (.slice (some ⟨q1, 0, none⟩) G.roots.length G.roots.length)) = Y at *
  refine C2.mono ?_
  rintro e w2 ⟨rfl, F2, b2⟩
  clear C2 z0 z1 z2 z3 z4 f1
  generalize hq2 : Y.heap.size = q2 at *
  have B2 := HB1.out.trans (b2.mono (by omega))
  have TP2 := five_below HTP.out (by rw [hq2]; exact b2)
  have TR2 := five_below HTR.out (by rw [hq2]; exact b2)
  have F12 := fullR_below HF1.out (by rw [hq2]; exact b2)
  have l2 := lt_of_block F2
  obtain ⟨z0, z1, z2, z3, z4, zf⟩ := five_cells TP2
  have f1 := zf 2
  have CH2 := one_ch w2 n0 2 (.slice (some ⟨q2, 0, none⟩) G.mourned.length G.mourned.length)
  have HTP2 : Hid _ := five_set2 TP2 (.slice (some ⟨q2, 0, none⟩) G.mourned.length G.mourned.length)
  have HTR2 : Hid _ := five_ch TR2 CH2 (by simp)
  have HF12 : Hid _ := fullR_ch F12 CH2 (by simp; omega)
  have HF2 : Hid _ := fullR_ch F2 CH2 (by simp; omega)
  have HB2 : Hid _ := B2.setCell (p := ⟨n0, 2, none⟩) (Nat.le_refl _) (.slice (some ⟨q2, 0, none⟩) G.mourned.length G.mourned.length)
  have hZ : q2 < (w2.setCell ⟨n0, 2, none⟩ (.slice (some ⟨q2, 0, none⟩) G.mourned.length G.mourned.length)).heap.size := by simpa using l2
  clear HTP HTR HF1 HB1 b2 F2 B2 TP2 TR2 F12 CH2 zf l2
  go_wp2_with fail
  have C3 := copiedO_any (orowAt_below HO.out.1 (HBW.out HB2.out)) HSL.out HSZ.out.1
  generalize (w2.setCell ⟨n0, 2, none⟩ (.slice (some ⟨q2, 0, none⟩) G.mourned.length G.mourned.length)) = Z at *
  refine C3.mono ?_
  rintro e w3 ⟨rfl, F3, b3⟩
  clear C3 z0 z1 z2 z3 z4 f1
  generalize hq3 : Z.heap.size = q3 at *
  have B3 := HB2.out.trans (b3.mono (by omega))
  have TP3 := five_below HTP2.out (by rw [hq3]; exact b3)
  have TR3 := five_below HTR2.out (by rw [hq3]; exact b3)
  have F13 := fullR_below HF12.out (by rw [hq3]; exact b3)
  have F23 := fullR_below HF2.out (by rw [hq3]; exact b3)
  have l3 := lt_of_block F3
  obtain ⟨z0, z1, z2, z3, z4, zf⟩ := five_cells TP3
  have f1 := zf 0
  have CH3 := one_ch w3 n0 0 (.slice (some ⟨q3, 0, none⟩) ms.length ms.length)
  have hS : q3 < (w3.setCell ⟨n0, 0, none⟩ (.slice (some ⟨q3, 0, none⟩) ms.length ms.length)).heap.size := by simpa using l3
  have HCG : Hid (CG w n0 n0 (n0 + 1) q1 q2 q3 ms G 0 ms (w3.setCell ⟨n0, 0, none⟩ (.slice (some ⟨q3, 0, none⟩) ms.length ms.length))) := by
    refine ⟨rfl, rfl, ?_, fun i hi => by omega, fun i _ _ => rfl, ?_, ?_, five_set0 TP3 _, five_ch TR3 CH3 (by simp), fullR_ch F13 CH3 (by simp; omega), fullR_ch F23 CH3 (by simp; omega), B3.setCell (p := ⟨n0, 0, none⟩) (Nat.le_refl _) _⟩
    · exact (CH3.block q3 l3 (by simp; omega)).trans F3
    · simp [blks]; omega
    · intro x hx
      simp [blks] at hx
      omega
  clear HTP2 HTR2 HF12 HF2 HB2 b3 F3 B3 TP3 TR3 F13 F23 CH3 zf l3
  go_wp2_with fail
  generalize (w3.setCell ⟨n0, 0, none⟩ (.slice (some ⟨q3, 0, none⟩) ms.length ms.length)) = S0 at *
  clear z0 z1 z2 z3 z4 f1 hq1 hq2 hq3
  go_loopw [19] (fun p wr => ∃ (k : Nat) (ns : List MO), k ≤ ms.length ∧ p = .int .i64 k ∧ Hid (CG w n0 n0 (n0 + 1) q1 q2 q3 ms G k ns wr) ∧ q3 < wr.heap.size) (fun p _ => ms.length - (intOf p).toNat)
  case atStart => exact ⟨0, ms, Nat.zero_le _, rfl, HCG, hS⟩
  case round =>
    obtain ⟨k, ns, hk, rfl, HK, hq⟩ := hrel
    clear HCG hS
    have y0 := (five_cells HK.out.gr).1
    by_cases hlt : k < ms.length
    · have hx := HK.out.rest k (Nat.le_refl _) hlt
      obtain ⟨_, _, _, _, d4⟩ := fullO_cell HK.out.full (i := k) (by rw [HK.out.len]; exact hlt)
      rw [hx] at d4
      have RA := refsAt_below (HO.out.2 _ (mem_getD hlt)) (HBW.out HK.out.bel)
      have CR := copiedR_any (w := wr.drew) (refsAt_drewN (n := 1) RA) (HSS.out _ (mem_getD hlt))
      have HST : Hid (∀ w2, Below wr.heap.size wr w2 → FullR w2 wr.heap.size (ms.getD k moD).slots → _) := fun w2 hb hF => HK.out.step hlt (by omega) (Nat.le_trans (HSS.out _ (mem_getD hlt)) hmx) hb hF
      obtain ⟨sa, sn, sc, hsv⟩ := refs_slice RA
      rw [hsv] at d4 CR
      have hfz : ∀ w2, Below wr.heap.size wr w2 → w2.frozen? ⟨q3, k * 5 + 4, none⟩ = false := fun w2 hb => fullO_frozen (fullO_below HK.out.full hb) _
      have HFZ : Hid _ := hfz
      clear RA hx hsv hfz HK
      generalize (ms.getD k moD).slots = xs at *
      go_wp2_with fail
      go_region_law (go_simp; go_at_call 101; refine CR.mono ?_; rintro e w2 ⟨rfl, F2, b2⟩; have b2' : Below wr.heap.size wr w2 := ⟨b2.os, b2.tape, b2.output, b2.size, b2.block⟩; have p0 := (b2'.cell (p := ⟨n0, 0, none⟩) (by show n0 < _; omega)).trans y0; have p4 := (b2'.cell (p := ⟨q3, k * 5 + 4, none⟩) hq).trans d4; have pf := HFZ.out w2 b2'; have HSX : Hid _ := HST.out w2 b2' F2; have sz2 := b2'.size; clear F2 b2 b2')
      all_goals go_wp2
      all_goals (obtain ⟨ns', hN⟩ := HSX.out)
      all_goals exact ⟨⟨k + 1, ns', by omega, by go_num, hN, by simp; omega⟩, by simp [intOf]; omega⟩
    · have e : k = ms.length := by omega
      subst e
      have OW := HK.out.done HEA.out (by omega) (by omega) (by omega)
      have TPX := HK.out.gr
      have TRX := HK.out.res
      have BX := HK.out.bel
      have hR : n0 + 1 ∉ gblk (.slice (some ⟨q3, 0, none⟩) ms.length ms.length) (.slice (some ⟨q1, 0, none⟩) G.roots.length G.roots.length) (.slice (some ⟨q2, 0, none⟩) G.mourned.length G.mourned.length) ns := by
        have nd := HK.out.nd
        rw [← HK.out.len, List.take_length] at nd
        simp only [List.cons_append, List.nil_append, List.nodup_cons, List.mem_cons, not_or] at nd
        obtain ⟨_, ⟨r1, r2, r3, r4⟩, _⟩ := nd
        simp only [gblk, blk_some, List.mem_append, List.mem_singleton, not_or]
        exact ⟨⟨⟨r3, r4⟩, r1⟩, r2⟩
      obtain ⟨z0, z1, z2, z3, z4, _⟩ := five_cells TPX
      obtain ⟨v0, v1, v2, v3, v4, vf⟩ := five_cells TRX
      have g0 := vf 0
      have g1 := vf 1
      have g2 := vf 2
      have g3 := vf 3
      have g4 := vf 4
      have HOW : Hid _ := ownG_ch OW (five_other (X := wr) (b := n0 + 1) (.slice (some ⟨q3, 0, none⟩) ms.length ms.length) (.slice (some ⟨q1, 0, none⟩) G.roots.length G.roots.length) (.slice (some ⟨q2, 0, none⟩) G.mourned.length G.mourned.length) (.int .i64 G.next) (.int .i64 G.seed)) (fun x hx e => hR ((List.mem_singleton.1 e) ▸ hx))
      have HTX : Hid _ := five_sets TRX (.slice (some ⟨q3, 0, none⟩) ms.length ms.length) (.slice (some ⟨q1, 0, none⟩) G.roots.length G.roots.length) (.slice (some ⟨q2, 0, none⟩) G.mourned.length G.mourned.length) (.int .i64 G.next) (.int .i64 G.seed)
      have HBX : Hid _ := five_belows BX (show n0 ≤ n0 + 1 by omega) (.slice (some ⟨q3, 0, none⟩) ms.length ms.length) (.slice (some ⟨q1, 0, none⟩) G.roots.length G.roots.length) (.slice (some ⟨q2, 0, none⟩) G.mourned.length G.mourned.length) (.int .i64 G.next) (.int .i64 G.seed)
      clear vf OW TPX TRX BX hR HK y0 HO HR HM HSL HSS HEA HSZ HBW
      go_wp2
      exact bodyPost_ret (res_gr rfl rfl HTX.out) rfl ⟨_, _, _, ns, rfl, HOW.out, HBX.out⟩
end Go.Proofs.Ytdogibjgogcdkal.gr
