/-
  Chapter 6 as the program has it: the object to which a root leads, and GHash.
  Made from the template GraphIAt.
-/
import Derived.Test.YtcboojhabolcbaaGreatDoorM7
namespace Go.Proofs.YtcboojhabolcbaaGreatDoor.gr
open Go.RowKit rows heads
set_option maxRecDepth 100000

theorem rootInRange_any (n : Int) (w : World) :
    Calls Tryz.prog 37 #[.int .i64 n] w fun e w' => e = .returned (.bool (inR 0 5 n)) ∧ w' = w := by
  unfold inR
  by_cases h1 : (0 : Int) ≤ n
  · by_cases h2 : n < 6
    · go_enter Tryz.func37, Tryz.ntmps37
      go_wp2
      go_ret
      exact ⟨by simp; omega, rfl⟩
    · go_enter Tryz.func37, Tryz.ntmps37
      go_wp2
      go_ret
      exact ⟨by simp; omega, rfl⟩
  · go_enter Tryz.func37, Tryz.ntmps37
    go_wp2
    go_ret
    exact ⟨by simp; omega, rfl⟩

/-- Does this root lead to an object? -/
def leads (G : Gr) (x : Int) : Bool := inR 0 5 x && (rootAt G x).1 == 2
theorem leads_plc {G : Gr} (hok : gOk G = true) {x : Int} (h : leads G x = true) : atI G.objs (rootAt G x).2 = (plc G x : Int) ∧ plc G x < G.objs.length := by
  simp only [leads, Bool.and_eq_true, beq_iff_eq] at h
  have h1 : 0 ≤ x ∧ x ≤ 5 := by simpa [inR] using h.1
  have := refOk_two ((gOk_parts hok).2 x.toNat (by omega)) h.2
  unfold plc rootAt
  omega

theorem leads_led {G : Gr} (hok : gOk G = true) {x : Int} (hx : inR 0 5 x = true) : ledB G.objs (rootAt G x) = leads G x := by
  have h1 : 0 ≤ x ∧ x ≤ 5 := by simpa [inR] using hx
  have hr := (gOk_parts hok).2 x.toNat (by omega)
  unfold ledB leads
  rw [hx, Bool.true_and]
  by_cases h2 : (rootAt G x).1 = 2
  · have := (refOk_two hr h2).1
    rw [decide_eq_true this, Bool.and_true]
  · have : ((rootAt G x).1 == 2) = false := by simpa using h2
    rw [this, Bool.false_and]
set_option maxHeartbeats 4000000 in
theorem objAt_no {w : World} {P : Nat} {o r m : Value} {ms : List MO} {G : Gr} (T : Five w P 27 o r m (.int .i64 G.next) (.int .i64 G.seed)) (h : GraphAt w o r m ms G) (hl : ms.length ≤ 1048576) (hok : gOk G = true) (x : Int) (hn : leads G x = false) :
    Calls Tryz.prog 44 #[.pointer (some ⟨P, 0, none⟩), .int .i64 x] w fun e w' => e = .returned (.pointer none) ∧ Below w.heap.size w w' := by
  obtain ⟨z0, z1, z2, z3, z4, _⟩ := five_cells T
  have RI := rootInRange_any x
  cases d : inR 0 5 x
  · rw [d] at RI
    clear z0 z1 z2 z3 z4 T h hn
    go_enter Tryz.func44, Tryz.ntmps44
    go_wp2_with (go_at_call 37; refine (RI _).mono ?_; rintro e w1 ⟨rfl, rfl⟩)
    go_ret
    exact ⟨rfl, Below.refl _ _⟩
  · have hL := leads_led hok d
    rw [hn] at hL
    have h1 : 0 ≤ x ∧ x ≤ 5 := by simpa [inR] using d
    obtain ⟨k, rfl⟩ : ∃ k : Nat, x = (k : Int) := ⟨x.toNat, by omega⟩
    have h6 := (gOk_parts hok).1
    have hk : k < G.roots.length := by omega
    rw [d] at RI
    obtain ⟨ea, hO, hR, hM⟩ := h
    have BD : Below w.heap.size w w.drew := (Below.refl _ _).drew
    have L := ledTo_any (w := w.drew) (orowAt_below hO.1 BD) (objs_slices hO) ea (gOk_rise hok) hl (G.roots.getD k refD)
    rw [show ledB G.objs (G.roots.getD k refD) = false from hL] at L
    have HBD : Hid _ := BD
    obtain ⟨ao, co, rfl, _⟩ := hO.1
    obtain ⟨a2, c2, rfl, hlc, hcm, _, hc⟩ := hR
    obtain ⟨b, off, rfl, hb, hcc⟩ := hc (by omega)
    have x0 := (hcc k hk).1
    have x1 := (hcc k hk).2
    have hk6 : k < 6 := by omega
    rw [h6] at z1
    clear z2 z3 z4 T hO hM hcc hc hn hL d hk h6 h1 hlc
    generalize G.roots.getD k refD = e0 at *
    obtain ⟨ek, en⟩ := e0
    go_enter Tryz.func44, Tryz.ntmps44
    have hk6' : (k : Int) < 6 := by omega
    clear BD
    go_wp2_with (first | (go_at_call 37; refine (RI _).mono ?_; rintro e w1 ⟨rfl, rfl⟩) | fail)
    go_region_law (go_simp; go_at_call 70; refine L.mono ?_; clear L; rintro e w1 ⟨k1, rfl, _, b1⟩; have HB1 : Hid _ := HBD.out.trans (b1.mono HBD.out.size); clear b1)
    all_goals go_wp2
    all_goals go_ret
    all_goals exact ⟨rfl, HB1⟩

set_option maxHeartbeats 4000000 in
theorem objAt_yes {w : World} {P : Nat} {r m : Value} {a1 : Option Addr} {n1 c1 : Nat} {ms : List MO} {G : Gr} (T : Five w P 27 (.slice a1 n1 c1) r m (.int .i64 G.next) (.int .i64 G.seed)) (h : GraphAt w (.slice a1 n1 c1) r m ms G) (hl : ms.length ≤ 1048576) (hok : gOk G = true) (x : Int) (hy : leads G x = true) :
    Calls Tryz.prog 44 #[.pointer (some ⟨P, 0, none⟩), .int .i64 x] w fun e w' => ∃ b off, a1 = some ⟨b, off, none⟩ ∧ e = .returned (.pointer (some ⟨b, off + plc G x * 5, none⟩)) ∧ Below w.heap.size w w' := by
  obtain ⟨z0, z1, z2, z3, z4, _⟩ := five_cells T
  have RI := rootInRange_any x
  obtain ⟨hpl, hpn⟩ := leads_plc hok hy
  have hd : inR 0 5 x = true := by simp only [leads, Bool.and_eq_true] at hy; exact hy.1
  have hL := leads_led hok hd
  rw [hy] at hL
  rw [hd] at RI
  have h1 : 0 ≤ x ∧ x ≤ 5 := by simpa [inR] using hd
  obtain ⟨k, rfl⟩ : ∃ k : Nat, x = (k : Int) := ⟨x.toNat, by omega⟩
  have h6 := (gOk_parts hok).1
  have hk : k < G.roots.length := by omega
  obtain ⟨ea, hO, hR, hM⟩ := h
  have hlen : ms.length = G.objs.length := by rw [← ea]; simp
  have BD : Below w.heap.size w w.drew := (Below.refl _ _).drew
  have HBD : Hid _ := BD
  have L := ledTo_any (w := w.drew) (orowAt_below hO.1 BD) (objs_slices hO) ea (gOk_rise hok) hl (G.roots.getD k refD)
  rw [show ledB G.objs (G.roots.getD k refD) = true from hL] at L
  rw [show ledP G.objs (G.roots.getD k refD) = plc G k from rfl] at L
  obtain ⟨ao, co, eo, hlco, hcmo, _, hco⟩ := hO.1
  injection eo with e1 e2 e3
  subst e1 e2 e3
  obtain ⟨b, off, rfl, hb, _⟩ := hco (by omega)
  obtain ⟨a2, c2, rfl, hlc, hcm, _, hc⟩ := hR
  obtain ⟨b2, off2, rfl, hb2, hcc⟩ := hc (by omega)
  have x0 := (hcc k hk).1
  have x1 := (hcc k hk).2
  have hk6 : k < 6 := by omega
  rw [h6] at z1
  have HT : Hid _ := T
  have hpm : plc G k < ms.length := by omega
  clear z2 z3 z4 T hO hM hcc hc hco hy hk h6 h1 hlc hpl hpn hlen ea hL hd
  generalize G.roots.getD k refD = e0 at *
  obtain ⟨ek, en⟩ := e0
  generalize hpp : plc G k = pl at *
  clear hpp
  go_enter Tryz.func44, Tryz.ntmps44
  have hk6' : (k : Int) < 6 := by omega
  clear BD
  go_wp2_with (first | (go_at_call 37; refine (RI _).mono ?_; rintro e w1 ⟨rfl, rfl⟩) | fail)
  go_region_law (go_simp; go_at_call 70; refine L.mono ?_; clear L; rintro e w1 ⟨i, rfl, hi, b1⟩; obtain rfl := hi (by trivial); have b2 := HBD.out.trans (b1.mono HBD.out.size); have T1 := five_below HT.out b2; obtain ⟨y0, y1, _, _, _, _⟩ := five_cells T1; have HB1 : Hid _ := b2; clear HT b1 b2 T1 z0 z1 x0 x1 hi)
  all_goals go_wp2
  all_goals go_ret
  all_goals exact ⟨b, off, rfl, rfl, HB1⟩

set_option maxHeartbeats 4000000 in
theorem implGHash {w : World} {o r m : Value} {ms : List MO} {G : Gr} (h : GraphAt w o r m ms G) (hs : gSize ms G ≤ 1048576) (x : Int) :
    Calls Tryz.prog 15 #[gv o r m G.next G.seed, .int .i64 x] w fun e w' => e = .returned (.int .i64 (gHash G x)) ∧ Below w.heap.size w w' := by
  have hsz : ms.length ≤ 1048576 := by unfold gSize at hs; omega
  obtain ⟨a1, n1, c1, a2, n2, c2, a3, n3, c3, e1, e2, e3⟩ := graphAt_slices h
  subst e1 e2 e3
  have B : Below w.heap.size w (w.alloc (gb (.slice a1 n1 c1) (.slice a2 n2 c2) (.slice a3 n3 c3) G.next G.seed)) := (Below.refl _ w).alloc (Nat.le_refl _) _
  have T := five_new w 27 (.slice a1 n1 c1) (.slice a2 n2 c2) (.slice a3 n3 c3) (.int .i64 G.next) (.int .i64 G.seed)
  have GO := implGraphOk (graphAt_below h B) hs
  have HN : Hid (∀ W, Below w.heap.size w W → Five W w.heap.size 27 (.slice a1 n1 c1) (.slice a2 n2 c2) (.slice a3 n3 c3) (.int .i64 G.next) (.int .i64 G.seed) → gOk G = true → leads G x = false → _) := fun W hW t ok d => objAt_no t (graphAt_below h hW) hsz ok x d
  have HY : Hid (∀ W, Below w.heap.size w W → Five W w.heap.size 27 (.slice a1 n1 c1) (.slice a2 n2 c2) (.slice a3 n3 c3) (.int .i64 G.next) (.int .i64 G.seed) → gOk G = true → leads G x = true → _) := fun W hW t ok d => objAt_yes t (graphAt_below h hW) hsz ok x d
  have HC : Hid (∀ b off, a1 = some ⟨b, off, none⟩ → plc G x < G.objs.length → b < w.heap.size ∧ w.cell? ⟨b, off + plc G x * 5 + 3, none⟩ = some (.int .i64 (G.objs.getD (plc G x) obD).hash)) := fun b off e hp => by
    obtain ⟨ea, ⟨⟨ao, co, eo, _, _, _, hco⟩, _⟩, _, _⟩ := h
    injection eo with e1 e2 e3
    subst e1 e
    have hlen : ms.length = G.objs.length := by rw [← ea]; simp
    obtain ⟨b', off', e4, hb, hcc⟩ := hco (by omega)
    injection e4 with e4
    injection e4 with e4 e5
    subst e4 e5
    refine ⟨hb, ?_⟩
    rw [(hcc _ (by omega)).2.2.2.1, ← ea, abs_getD]
    rfl
  obtain ⟨RV, hRV⟩ : ∃ RV, gHash G x = RV := ⟨_, rfl⟩
  rw [hRV]
  have HRV : Hid _ := hRV
  have HB : Hid _ := B
  have HT : Hid _ := T
  have HPL : Hid (gOk G = true → leads G x = true → plc G x < G.objs.length) := fun ok d => (leads_plc ok d).2
  clear hRV B T h hs hsz
  generalize hgn : G.next = gn at *
  generalize hgs : G.seed = gs at *
  clear hgn hgs
  go_enter Tryz.func15, Tryz.ntmps15
  go_wp2_with fail
  generalize (w.alloc (gb (.slice a1 n1 c1) (.slice a2 n2 c2) (.slice a3 n3 c3) gn gs)) = X at *
  refine GO.mono ?_
  rintro e w1 ⟨rfl, b1⟩
  have T1 := five_below HT.out b1
  have B1 := HB.out.trans (b1.mono HB.out.size)
  have sz1 := B1.size
  have HB1 : Hid _ := B1
  clear GO HT HB b1
  cases ok : gOk G
  · have ER : Hid (RV = -1) := by show _ = _; rw [← HRV.out]; unfold gHash; rw [ok]; rfl
    clear HRV HN HY HC HPL T1 B1
    go_wp2
    go_ret
    exact ⟨by rw [ER.out]; rfl, HB1⟩
  · cases d : leads G x
    · have ER : Hid (RV = -1) := by
        show _ = _
        rw [← HRV.out]
        unfold gHash hashAt
        rw [ok, if_pos rfl, show (inR 0 5 x && (rootAt G x).1 == 2) = leads G x from rfl, d]
        rfl
      have N := HN.out w1 B1 T1 ok d
      clear HRV HN HY HC HPL T1 B1
      go_wp2_with (go_at_call 44; refine N.mono ?_; rintro e w2 ⟨rfl, b2⟩; have HB2 : Hid _ := HB1.out.trans (b2.mono sz1); clear b2 N)
      go_ret
      exact ⟨by rw [ER.out]; rfl, HB2⟩
    · have ER : Hid (RV = (G.objs.getD (plc G x) obD).hash) := by
        show _ = _
        rw [← HRV.out]
        unfold gHash hashAt
        rw [ok, if_pos rfl, show (inR 0 5 x && (rootAt G x).1 == 2) = leads G x from rfl, d]
        rfl
      have Y := HY.out w1 B1 T1 ok d
      have hp := HPL.out ok d
      clear HRV HN HY HPL T1 B1
      generalize plc G x = pl at *
      go_wp2_with fail
      refine Y.mono ?_
      rintro e w2 ⟨b, off, ha, rfl, b2⟩
      have B2 := HB1.out.trans (b2.mono sz1)
      obtain ⟨hb, c⟩ := HC.out b off ha hp
      have c3 := (B2.cell (p := ⟨b, off + pl * 5 + 3, none⟩) hb).trans c
      have HB2 : Hid _ := B2
      clear Y HC b2 B2 c
      generalize (G.objs.getD pl obD).hash = hh at *
      go_wp2
      go_ret
      exact ⟨by rw [ER.out]; rfl, HB2⟩
end Go.Proofs.YtcboojhabolcbaaGreatDoor.gr
