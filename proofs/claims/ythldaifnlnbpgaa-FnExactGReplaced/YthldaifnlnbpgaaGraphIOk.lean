/-
  Chapter 6 as the program has it: is a graph right?
  Made from the template GraphIOk.
-/
import Derived.Test.YthldaifnlnbpgaaGraphIRef
namespace Go.Proofs.Ythldaifnlnbpgaa.gr
open Go.RowKit rows heads
set_option maxRecDepth 100000

set_option maxHeartbeats 1000000 in
theorem headOf_any (m : MO) {a : Option Addr} {n c : Nat} (hs : m.sv = .slice a n c) (w : World) :
    Calls Try.prog 59 #[ov m] w fun e w' => e = .returned (hv (n : Int) m.fmt m.cls m.hash false false) ∧ Below w.heap.size w w' := by
  obtain ⟨i, k, f, g, sv, sl⟩ := m
  simp only at hs
  subst hs
  go_enter Try.func59, Try.ntmps59
  go_wp2
  have A : HeadAt ((w.alloc (ob ⟨i, k, f, g, .slice a n c, sl⟩)).alloc (hb (n : Int) f k g false false)) (w.heap.size + 1) (n : Int) f k g false false := by
    have := headAt_new (w.alloc (ob ⟨i, k, f, g, .slice a n c, sl⟩)) (n : Int) f k g false false
    simpa using this
  exact bodyPost_ret (res_head rfl rfl A) rfl ⟨rfl, ((Below.refl _ w).alloc (Nat.le_refl _) _).alloc (by simp) _⟩

set_option maxHeartbeats 2000000 in
theorem idsOk_any {w : World} {v : Value} {ms : List MO} {os : List Ob} (h : OrowAt w v ms) (hsl : Slices ms) (ea : ms.map MO.abs = os) (hl : ms.length ≤ 1048576) (next : Int) :
    Calls Try.prog 51 #[v, .int .i64 next] w fun e w' => e = .returned (.bool (idsB os next)) ∧ Below w.heap.size w w' := by
  have hlen : os.length = ms.length := by rw [← ea]; simp
  have hid : ∀ i, (os.getD i obD).id = (ms.getD i moD).id := fun i => by rw [← ea, abs_getD]; rfl
  obtain ⟨a, cap, rfl, hlc, hcm, _, hc⟩ := h
  have HC : Hid _ := hc
  have HS : Hid _ := hsl
  have HLEN : Hid _ := hlen
  have HID : Hid _ := hid
  clear hc hsl hlen hid
  obtain ⟨RV, hRV⟩ : ∃ RV, idsB os next = RV := ⟨_, rfl⟩
  rw [hRV]
  have HRV : Hid _ := hRV
  clear hRV
  go_enter Try.func51, Try.ntmps51
  go_wp2_with fail
  go_loopw [5, 10] (fun p q wr => ∃ (k : Nat) (la : Int), k ≤ ms.length ∧ p = .int .i64 la ∧ q = .int .i64 k ∧ Hid (la = lastOf os k) ∧ (∀ i, i < k → (decide (lastOf os i < (os.getD i obD).id) && decide ((os.getD i obD).id < next)) = true) ∧ Below w.heap.size w wr) (fun _ q _ => ms.length - (intOf q).toNat)
  case atStart => exact ⟨0, 0, Nat.zero_le _, rfl, rfl, rfl, fun q hq => by omega, Below.refl _ _⟩
  case round =>
    obtain ⟨k, la, hk, rfl, rfl, HLA, hall, hB⟩ := hrel
    have HA : Hid _ := hall
    have HB : Hid _ := hB
    have szr := hB.size
    clear hall
    by_cases hlt : k < ms.length
    · obtain ⟨b, off, rfl, hb, hcc⟩ := HC.out (by omega)
      obtain ⟨x0, x1, x2, x3, x4⟩ := hcc k hlt
      have c0 := (hB.cell (p := ⟨b, off + k * 5, none⟩) hb).trans x0
      have c1 := (hB.cell (p := ⟨b, off + k * 5 + 1, none⟩) hb).trans x1
      have c2 := (hB.cell (p := ⟨b, off + k * 5 + 2, none⟩) hb).trans x2
      have c3 := (hB.cell (p := ⟨b, off + k * 5 + 3, none⟩) hb).trans x3
      have c4 := (hB.cell (p := ⟨b, off + k * 5 + 4, none⟩) hb).trans x4
      obtain ⟨sa, sn, sc, hsv⟩ := HS.out _ (mem_getD hlt)
      have HX : Hid (¬ (la < (ms.getD k moD).id ∧ (ms.getD k moD).id < next) → RV = false) := fun e => by
        rw [← HRV.out]
        refine rangeAll_not (i := k) (by rw [HLEN.out]; exact hlt) ?_
        rw [HID.out, ← HLA.out]
        cases d : (decide (la < (ms.getD k moD).id) && decide ((ms.getD k moD).id < next))
        · rfl
        · simp only [Bool.and_eq_true, decide_eq_true_eq] at d; exact absurd d e
      have HY : Hid (la < (ms.getD k moD).id ∧ (ms.getD k moD).id < next → ∀ q, q < k + 1 → (decide (lastOf os q < (os.getD q obD).id) && decide ((os.getD q obD).id < next)) = true) := fun e q hq => by
        by_cases e' : q = k
        · rw [e', HID.out, ← HLA.out, decide_eq_true e.1, decide_eq_true e.2]; rfl
        · exact HA.out q (by omega)
      have HN : Hid ((ms.getD k moD).id = lastOf os (k + 1)) := (HID.out k).symm
      have HB2 : Hid (Below w.heap.size w (wr.alloc (ob (ms.getD k moD)))) := hB.alloc szr _
      clear hcc HC HS hB x0 x1 x2 x3 x4 HLEN HID HA HB HRV HLA
      generalize ms.getD k moD = x at *
      obtain ⟨xi, xc, xf, xh, xv, xs⟩ := x
      simp only at hsv HX HY HN
      subst hsv
      by_cases d1 : xi ≤ la
      · have ER : Hid _ := HX.out (by omega)
        clear HX HY HN
        go_wp2
        go_ret
        exact ⟨by rw [ER.out]; rfl, HB2⟩
      · by_cases d2 : xi ≥ next
        · have ER : Hid _ := HX.out (by omega)
          clear HX HY HN
          go_wp2
          go_ret
          exact ⟨by rw [ER.out]; rfl, HB2⟩
        · have HY2 : Hid _ := HY.out (by omega)
          clear HX HY
          go_wp2
          exact ⟨⟨k + 1, xi, by omega, rfl, by go_num, HN, HY2, HB2⟩, by simp [intOf]; omega⟩
    · have e : k = ms.length := by omega
      subst e
      have ER : Hid (RV = true) := by show _ = _; rw [← HRV.out]; exact rangeAll_yes (fun i hi => HA.out i (by rw [HLEN.out] at hi; exact hi))
      clear HA HC HS hB HRV HLA HLEN HID
      go_wp2
      go_ret
      exact ⟨by rw [ER.out]; rfl, HB⟩

set_option maxHeartbeats 2000000 in
theorem objsOk_any {w : World} {v : Value} {ms : List MO} {os : List Ob} (h : ObjsAt w v ms) (ea : ms.map MO.abs = os) (hr : Rise os) (hl : ms.length ≤ 1048576) (hsz : ∀ m ∈ ms, m.slots.length ≤ 1048576) :
    Calls Try.prog 52 #[v] w fun e w' => e = .returned (.bool (objsB os)) ∧ Below w.heap.size w w' := by
  have hlen : os.length = ms.length := by rw [← ea]; simp
  have hob : ∀ i, os.getD i obD = (ms.getD i moD).abs := fun i => by rw [← ea, abs_getD]
  have hsl := objs_slices h
  have HROW : Hid _ := h.1
  have HREF : Hid _ := h.2
  obtain ⟨⟨a, cap, rfl, hlc, hcm, _, hc⟩, _⟩ := h
  have HC : Hid _ := hc
  have HLEN : Hid _ := hlen
  have HOB : Hid _ := hob
  have HSZ : Hid _ := hsz
  have HSL : Hid _ := hsl
  clear hc hlen hob hsz hsl
  obtain ⟨RV, hRV⟩ : ∃ RV, objsB os = RV := ⟨_, rfl⟩
  rw [hRV]
  have HRV : Hid _ := hRV
  clear hRV
  go_enter Try.func52, Try.ntmps52
  go_wp2_with fail
  go_loopw [7] (fun q wr => ∃ k : Nat, k ≤ ms.length ∧ q = .int .i64 k ∧ (∀ i, i < k → objB os i = true) ∧ Below w.heap.size w wr) (fun q _ => ms.length - (intOf q).toNat)
  case atStart => exact ⟨0, Nat.zero_le _, rfl, fun q hq => by omega, Below.refl _ _⟩
  case round =>
    obtain ⟨k, hk, rfl, hall, hB⟩ := hrel
    have HA : Hid _ := hall
    have HB : Hid _ := hB
    have szr := hB.size
    clear hall
    by_cases hlt : k < ms.length
    · have HRO : Hid (∀ W, Below w.heap.size w W → _) := fun W hW => refsOk_any (refsAt_below (HREF.out _ (mem_getD hlt)) hW) (orowAt_below HROW.out hW) HSL.out ea hr hl (HSZ.out _ (mem_getD hlt))
      obtain ⟨sa, sc, hsv, _⟩ := HREF.out _ (mem_getD hlt)
      obtain ⟨b, off, rfl, hb, hcc⟩ := HC.out (by omega)
      obtain ⟨x0, x1, x2, x3, x4⟩ := hcc k hlt
      have c0 := (hB.cell (p := ⟨b, off + k * 5, none⟩) hb).trans x0
      have c1 := (hB.cell (p := ⟨b, off + k * 5 + 1, none⟩) hb).trans x1
      have c2 := (hB.cell (p := ⟨b, off + k * 5 + 2, none⟩) hb).trans x2
      have c3 := (hB.cell (p := ⟨b, off + k * 5 + 3, none⟩) hb).trans x3
      have c4 := (hB.cell (p := ⟨b, off + k * 5 + 4, none⟩) hb).trans x4
      have EOB : Hid (objB os k = (fok ((ms.getD k moD).slots.length : Int) (ms.getD k moD).fmt (ms.getD k moD).cls (ms.getD k moD).hash false false && refsB os (ms.getD k moD).slots)) := by
        show _ = _
        unfold objB slOk
        rw [HOB.out]
        rfl
      have HX : Hid (objB os k = false → RV = false) := fun e => by
        rw [← HRV.out]
        exact rangeAll_not (i := k) (by rw [HLEN.out]; exact hlt) e
      have HY : Hid (objB os k = true → ∀ q, q < k + 1 → objB os q = true) := fun e q hq => by
        by_cases e' : q = k
        · rw [e']; exact e
        · exact HA.out q (by omega)
      have B2 : Below w.heap.size w (wr.alloc (ob (ms.getD k moD))) := hB.alloc szr _
      have HH := headOf_any (ms.getD k moD) hsv (wr.alloc (ob (ms.getD k moD)))
      have T : Five (wr.alloc (ob (ms.getD k moD))) wr.heap.size 59 (.int .i64 (ms.getD k moD).id) (.int .i64 (ms.getD k moD).cls) (.int .i64 (ms.getD k moD).fmt) (.int .i64 (ms.getD k moD).hash) (ms.getD k moD).sv := five_new wr _ _ _ _ _ _
      have HT : Hid _ := T
      have HB2 : Hid _ := B2
      have sz2 := B2.size
      clear hcc HC hB x0 x1 x2 x3 x4 HLEN HOB HA HB HRV HROW HREF HSZ HSL T B2
      generalize ms.getD k moD = x at *
      obtain ⟨xi, xc, xf, xh, xv, xs⟩ := x
      simp only at hsv EOB
      subst hsv
      simp only [ov] at HH
      go_wp2_with fail
      generalize (wr.alloc (ob ⟨xi, xc, xf, xh, .slice sa xs.length sc, xs⟩)) = X at *
      refine HH.mono ?_
      rintro e w1 ⟨rfl, b1⟩
      have T1 := five_below HT.out b1
      have B3 := HB2.out.trans (b1.mono sz2)
      have sz3 := B3.size
      have OH := objectHeadOk_any (xs.length : Int) xf xc xh false false w1
      have HT1 : Hid _ := T1
      have HB3 : Hid _ := B3
      clear HH HT HB2 b1 T1 B3
      generalize fok (xs.length : Int) xf xc xh false false = fo at *
      go_wp2_with fail
      refine OH.mono ?_
      rintro e w2 ⟨rfl, b2⟩
      have T2 := five_below HT1.out b2
      have B4 := HB3.out.trans (b2.mono sz3)
      have sz4 := B4.size
      have RO := HRO.out w2 B4
      obtain ⟨_, _, _, _, z4, _⟩ := five_cells T2
      have HB4 : Hid _ := B4
      clear OH HT1 HB3 b2 T2 B4 HRO
      cases fo
      · have ER : Hid _ := HX.out (by rw [EOB.out]; rfl)
        clear HX HY EOB RO
        go_wp2
        go_ret
        exact ⟨by rw [ER.out]; rfl, HB4⟩
      · simp only [Bool.true_and] at EOB
        cases d : refsB os xs
        · have ER : Hid _ := HX.out (by rw [EOB.out]; exact d)
          rw [d] at RO
          clear HX HY EOB d
          go_wp2_with (go_at_call 60; refine RO.mono ?_; rintro e w3 ⟨rfl, b3⟩; have HB5 : Hid _ := HB4.out.trans (b3.mono sz4); clear b3 RO)
          go_ret
          exact ⟨by rw [ER.out]; rfl, HB5⟩
        · have HY2 : Hid _ := HY.out (by rw [EOB.out]; exact d)
          rw [d] at RO
          clear HX HY EOB d
          go_wp2_with (go_at_call 60; refine RO.mono ?_; rintro e w3 ⟨rfl, b3⟩; have HB5 : Hid _ := HB4.out.trans (b3.mono sz4); clear b3 RO)
          exact ⟨⟨k + 1, by omega, by go_num, HY2, HB5⟩, by simp [intOf]; omega⟩
    · have e : k = ms.length := by omega
      subst e
      have ER : Hid (RV = true) := by show _ = _; rw [← HRV.out]; exact rangeAll_yes (fun i hi => HA.out i (by rw [HLEN.out] at hi; exact hi))
      clear HA HC hB HRV HLEN HOB HROW HREF HSZ HSL
      go_wp2
      go_ret
      exact ⟨by rw [ER.out]; rfl, HB⟩

set_option maxHeartbeats 2000000 in
theorem rootsOk_any {w : World} {o r m : Value} {ms : List MO} {G : Gr} (h : GraphAt w o r m ms G) (hs : gSize ms G ≤ 1048576) (hr : Rise G.objs) :
    Calls Try.prog 53 #[gv o r m G.next G.seed] w fun e w' => e = .returned (.bool (rootsB G)) ∧ Below w.heap.size w w' := by
  have hsz : ms.length ≤ 1048576 ∧ G.roots.length ≤ 1048576 ∧ G.mourned.length ≤ 1048576 := by unfold gSize at hs; omega
  obtain ⟨ea, hO, hR, hM⟩ := h
  have hsl := objs_slices hO
  have HLA : Hid (∀ W, Below w.heap.size w W → _) := fun W hW => leadsAll_any (refsAt_below hM hW) hsz.2.2
  have HRR : Hid (∀ W, Below w.heap.size w W → _) := fun W hW => refsOk_any (refsAt_below hR hW) (orowAt_below hO.1 hW) hsl ea hr hsz.1 hsz.2.1
  have HRM : Hid (∀ W, Below w.heap.size w W → _) := fun W hW => refsOk_any (refsAt_below hM hW) (orowAt_below hO.1 hW) hsl ea hr hsz.1 hsz.2.2
  have hrl : ∃ a c, r = .slice a G.roots.length c := by obtain ⟨a, c, e, _⟩ := hR; exact ⟨a, c, e⟩
  have hml : ∃ a c, m = .slice a G.mourned.length c := by obtain ⟨a, c, e, _⟩ := hM; exact ⟨a, c, e⟩
  have hol : ∃ a n c, o = .slice a n c := by obtain ⟨⟨a, c, e, _⟩, _⟩ := hO; exact ⟨a, _, c, e⟩
  obtain ⟨a1, n1, c1, rfl⟩ := hol
  obtain ⟨a2, c2, rfl⟩ := hrl
  obtain ⟨a3, c3, rfl⟩ := hml
  have B : Below w.heap.size w (w.alloc (gb (.slice a1 n1 c1) (.slice a2 G.roots.length c2) (.slice a3 G.mourned.length c3) G.next G.seed)) := (Below.refl _ w).alloc (Nat.le_refl _) _
  have T := five_new w 30 (.slice a1 n1 c1) (.slice a2 G.roots.length c2) (.slice a3 G.mourned.length c3) (.int .i64 G.next) (.int .i64 G.seed)
  obtain ⟨RV, hRV⟩ : ∃ RV, rootsB G = RV := ⟨_, rfl⟩
  rw [hRV]
  have HRV : Hid _ := hRV
  have HB : Hid _ := B
  have HT : Hid _ := T
  clear hRV B T hO hR hM hsl ea
  generalize G.next = gn at *
  generalize G.seed = gs at *
  unfold rootsB at HRV
  generalize hlr : G.roots.length = lr at *
  generalize hlm : G.mourned.length = lm at *
  clear hlr hlm
  go_enter Try.func53, Try.ntmps53
  by_cases e6 : lr = 6
  · subst e6
    by_cases e40 : lm ≤ 40
    · have eRV : Hid (RV = (leadB G.mourned && (refsB G.objs G.roots && refsB G.objs G.mourned))) := by show _ = _; rw [← HRV.out]; simp [e40]
      have n40 : ¬ (lm : Int) > 40 := by omega
      clear HRV
      go_wp2_with fail
      have LA := HLA.out _ HB.out
      have T0 := HT.out
      generalize (w.alloc (gb (.slice a1 n1 c1) (.slice a2 6 c2) (.slice a3 lm c3) gn gs)) = X at *
      refine LA.mono ?_
      rintro e w1 ⟨rfl, b1⟩
      have T1 := five_below T0 b1
      have B1 := HB.out.trans (b1.mono HB.out.size)
      have RR := HRR.out _ B1
      obtain ⟨z0, z1, z2, _, _, _⟩ := five_cells T1
      have sz1 := B1.size
      have HB1 : Hid _ := B1
      have HT1 : Hid _ := T1
      clear LA HLA HRR HT HB T0 T1 b1 B1
      cases d1 : leadB G.mourned
      · have ER : Hid (RV = false) := by show _ = _; rw [eRV.out, d1]; rfl
        clear eRV RR HRM
        go_wp2
        go_ret
        exact ⟨by rw [ER.out]; rfl, HB1⟩
      · go_wp2_with fail
        refine RR.mono ?_
        rintro e w2 ⟨rfl, b2⟩
        have T2 := five_below HT1.out b2
        have B2 := HB1.out.trans (b2.mono sz1)
        have RM := HRM.out _ B2
        have HB2 : Hid _ := B2
        have sz2 := B2.size
        clear z0 z1 z2
        obtain ⟨z0, z1, z2, _, _, _⟩ := five_cells T2
        clear RR HRM HT1 T2 b2 B2 HB1
        cases d2 : refsB G.objs G.roots
        · have ER : Hid (RV = false) := by show _ = _; rw [eRV.out, d1, d2]; rfl
          clear eRV RM
          go_wp2
          go_ret
          exact ⟨by rw [ER.out]; rfl, HB2⟩
        · have ER : Hid (RV = refsB G.objs G.mourned) := by show _ = _; rw [eRV.out, d1, d2]; rfl
          clear eRV
          generalize refsB G.objs G.mourned = bm at *
          go_wp2_with fail
          refine RM.mono ?_
          rintro e w3 ⟨rfl, b3⟩
          have HB3 : Hid _ := HB2.out.trans (b3.mono sz2)
          clear RM HB2 b3
          go_wp2
          go_ret
          exact ⟨by rw [ER.out]; rfl, HB3⟩
    · have ER : Hid (RV = false) := by show _ = _; rw [← HRV.out]; simp [e40]
      have n40 : (lm : Int) > 40 := by omega
      clear HRV HLA HRR HRM HT
      go_wp2
      go_ret
      exact ⟨by rw [ER.out]; rfl, HB⟩
  · have ER : Hid (RV = false) := by show _ = _; rw [← HRV.out]; simp [e6]
    have n6 : ((lr : Int) != 6) = true := by simp; omega
    clear HRV HLA HRR HRM HT
    go_wp2
    go_ret
    exact ⟨by rw [ER.out]; rfl, HB⟩
end Go.Proofs.Ythldaifnlnbpgaa.gr
