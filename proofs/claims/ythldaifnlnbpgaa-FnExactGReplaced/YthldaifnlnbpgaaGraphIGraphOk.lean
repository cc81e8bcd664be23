/-
  Chapter 6 as the program has it: GraphOk.
  Made from the template GraphIGraphOk.
-/
import Derived.Test.YthldaifnlnbpgaaGraphIOk
namespace Go.Proofs.Ythldaifnlnbpgaa.gr
open Go.RowKit rows heads
set_option maxRecDepth 100000

set_option maxHeartbeats 4000000 in
theorem implGraphOk {w : World} {o r m : Value} {ms : List MO} {G : Gr} (h : GraphAt w o r m ms G) (hs : gSize ms G ≤ 1048576) :
    Calls Try.prog 45 #[gv o r m G.next G.seed] w fun e w' => e = .returned (.bool (gOk G)) ∧ Below w.heap.size w w' := by
  rw [← pG_gOk]
  have hsz : ms.length ≤ 1048576 := by unfold gSize at hs; omega
  have hss := gSize_slots hs
  have h0 := h
  obtain ⟨ea, hO, hR, hM⟩ := h
  have hsl := objs_slices hO
  have hlen : ms.length = G.objs.length := by rw [← ea]; simp
  have HID : Hid (∀ W, Below w.heap.size w W → ∀ nx, _) := fun W hW nx => idsOk_any (orowAt_below hO.1 hW) hsl ea hsz nx
  have HOB : Hid (Rise G.objs → ∀ W, Below w.heap.size w W → _) := fun hr W hW => objsOk_any (objsAt_below hO hW) ea hr hsz hss
  have HRO : Hid (Rise G.objs → ∀ W, Below w.heap.size w W → _) := fun hr W hW => rootsOk_any (graphAt_below h0 hW) hs hr
  have HRI : Hid (∀ nx, idsB G.objs nx = true → Rise G.objs) := fun nx e => rise_of e
  have hol : ∃ a c, o = .slice a G.objs.length c := by obtain ⟨⟨a, c, e, _⟩, _⟩ := hO; rw [hlen] at e; exact ⟨a, c, e⟩
  obtain ⟨a2, n2, c2, e2⟩ := refs_slice hR
  obtain ⟨a3, n3, c3, e3⟩ := refs_slice hM
  obtain ⟨a1, c1, rfl⟩ := hol
  subst e2 e3
  have B : Below w.heap.size w (w.alloc (gb (.slice a1 G.objs.length c1) (.slice a2 n2 c2) (.slice a3 n3 c3) G.next G.seed)) := (Below.refl _ w).alloc (Nat.le_refl _) _
  have T := five_new w 30 (.slice a1 G.objs.length c1) (.slice a2 n2 c2) (.slice a3 n3 c3) (.int .i64 G.next) (.int .i64 G.seed)
  obtain ⟨RV, hRV⟩ : ∃ RV, pG G = RV := ⟨_, rfl⟩
  rw [hRV]
  have HRV : Hid _ := hRV
  have HB : Hid _ := B
  have HT : Hid _ := T
  clear hRV B T hO hR hM hsl ea hlen h0 hss hsz hs
  unfold pG at HRV
  generalize hgn : G.next = gn at *
  generalize hgs : G.seed = gs at *
  have hl63 : c1 ≤ 9223372036854775807 ∨ True := .inr trivial
  clear hgn hgs hl63
  generalize hol : G.objs.length = lo at *
  clear hol
  go_enter Try.func45, Try.ntmps45
  by_cases e1 : gn < 1
  · have ER : Hid (RV = false) := by show _ = _; rw [← HRV.out]; simp [inR]; omega
    clear HRV HID HOB HRO HRI HT
    go_wp2
    go_ret
    exact ⟨by rw [ER.out]; rfl, HB⟩
  by_cases e2 : gn > 100000
  · have ER : Hid (RV = false) := by show _ = _; rw [← HRV.out]; simp [inR]; omega
    clear HRV HID HOB HRO HRI HT
    go_wp2
    go_ret
    exact ⟨by rw [ER.out]; rfl, HB⟩
  have i1 : inR 1 100000 gn = true := by simp [inR]; omega
  rw [i1] at HRV
  have HI := hashInRange_any gs
  cases e3 : inR 0 65535 gs
  · have ER : Hid (RV = false) := by show _ = _; rw [← HRV.out, e3]; rfl
    rw [e3] at HI
    clear HRV HID HOB HRO HRI HT
    go_wp2_with (go_at_call 50; refine (HI _).mono ?_; rintro e w1 ⟨rfl, rfl⟩)
    go_ret
    exact ⟨by rw [ER.out]; rfl, HB⟩
  rw [e3] at HI HRV
  by_cases e4 : lo ≤ 200
  · have n4 : ¬ (lo : Int) > 200 := by omega
    have eRV : Hid (RV = (idsB G.objs gn && (objsB G.objs && rootsB G))) := by show _ = _; rw [← HRV.out]; simp [e4]
    clear HRV
    go_wp2_with (go_at_call 50; refine (HI _).mono ?_; rintro e w1 ⟨rfl, rfl⟩)
    have ID := HID.out _ HB.out gn
    have T0 := HT.out
    clear HI
    generalize (w.alloc (gb (.slice a1 lo c1) (.slice a2 n2 c2) (.slice a3 n3 c3) gn gs)) = X at *
    refine ID.mono ?_
    rintro e w1 ⟨rfl, b1⟩
    have T1 := five_below T0 b1
    have B1 := HB.out.trans (b1.mono HB.out.size)
    obtain ⟨z0, z1, z2, z3, z4, _⟩ := five_cells T1
    have sz1 := B1.size
    have HB1 : Hid _ := B1
    have HT1 : Hid _ := T1
    clear ID HID HT HB T0 T1 b1 B1
    cases d1 : idsB G.objs gn
    · have ER : Hid (RV = false) := by show _ = _; rw [eRV.out, d1]; rfl
      clear eRV HOB HRO HRI HT1
      go_wp2
      go_ret
      exact ⟨by rw [ER.out]; rfl, HB1⟩
    · have hr := HRI.out gn d1
      have OB := HOB.out hr _ HB1.out
      go_wp2_with fail
      refine OB.mono ?_
      rintro e w2 ⟨rfl, b2⟩
      have T2 := five_below HT1.out b2
      have B2 := HB1.out.trans (b2.mono sz1)
      have RO := HRO.out hr _ B2
      clear z0 z1 z2 z3 z4
      obtain ⟨z0, z1, z2, z3, z4, _⟩ := five_cells T2
      have HB2 : Hid _ := B2
      have sz2 := B2.size
      clear OB HOB HRO HT1 T2 b2 B2 HB1 hr HRI
      cases d2 : objsB G.objs
      · have ER : Hid (RV = false) := by show _ = _; rw [eRV.out, d1, d2]; rfl
        clear eRV RO
        go_wp2
        go_ret
        exact ⟨by rw [ER.out]; rfl, HB2⟩
      · have ER : Hid (RV = rootsB G) := by show _ = _; rw [eRV.out, d1, d2]; rfl
        clear eRV
        generalize rootsB G = bm at *
        go_wp2_with fail
        refine RO.mono ?_
        rintro e w3 ⟨rfl, b3⟩
        have HB3 : Hid _ := HB2.out.trans (b3.mono sz2)
        clear RO HB2 b3
        go_wp2
        go_ret
        exact ⟨by rw [ER.out]; rfl, HB3⟩
  · have n4 : (lo : Int) > 200 := by omega
    have ER : Hid (RV = false) := by show _ = _; rw [← HRV.out]; simp [e4]
    clear HRV HID HOB HRO HRI HT
    go_wp2_with (go_at_call 50; refine (HI _).mono ?_; rintro e w1 ⟨rfl, rfl⟩)
    go_ret
    exact ⟨by rw [ER.out]; rfl, HB⟩
end Go.Proofs.Ythldaifnlnbpgaa.gr
