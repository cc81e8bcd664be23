/-
  Chapter 6 as the program has it: the object to which a root leads, and GHash.
  Made from the template GraphIAt.
-/
import Derived.Test.YthldaifnlnbpgaaGraphIGraphOk
import Derived.Test.YthldaifnlnbpgaaGraphE
import Derived.Test.YthldaifnlnbpgaaGraphILed
namespace Go.Proofs.Ythldaifnlnbpgaa.gr
open Go.RowKit rows heads
set_option maxRecDepth 100000

theorem rootInRange_any (n : Int) (w : World) :
    Calls Try.prog 47 #[.int .i64 n] w fun e w' => e = .returned (.bool (inR 0 5 n)) ∧ w' = w := by
  unfold inR
  by_cases h1 : (0 : Int) ≤ n
  · by_cases h2 : n < 6
    · go_enter Try.func47, Try.ntmps47
      go_wp2
      go_ret
      exact ⟨by simp; omega, rfl⟩
    · go_enter Try.func47, Try.ntmps47
      go_wp2
      go_ret
      exact ⟨by simp; omega, rfl⟩
  · go_enter Try.func47, Try.ntmps47
    go_wp2
    go_ret
    exact ⟨by simp; omega, rfl⟩

/-- Does this root lead to an object? -/
def leads (G : Gr) (x : Int) : Bool := inR 0 5 x && (rootAt G x).1 == 2
theorem leads_plc {G : Gr} (hok : gOk G = true) {x : Int} (h : leads G x = true) : atI G.objs (rootAt G x).2 = (plc G x : Int) ∧ plc G x < G.objs.length := by
  simp only [leads, Bool.and_eq_true, beq_iff_eq] at h
  have h1 : 0 ≤ x ∧ x ≤ 5 := by simpa [inR] using h.1
  have := refOk_two ((gOk_parts hok).2 x.toNat (by omega)) h.2
  unfold plc rootAt
  omega

theorem leads_led {G : Gr} (hok : gOk G = true) {x : Int} (hx : inR 0 5 x = true) : ledB G.objs (rootAt G x) = leads G x := by
  have h1 : 0 ≤ x ∧ x ≤ 5 := by simpa [inR] using hx
  have hr := (gOk_parts hok).2 x.toNat (by omega)
  unfold ledB leads
  rw [hx, Bool.true_and]
  by_cases h2 : (rootAt G x).1 = 2
  · have := (refOk_two hr h2).1
    rw [decide_eq_true this, Bool.and_true]
  · have : ((rootAt G x).1 == 2) = false := by simpa using h2
    rw [this, Bool.false_and]
set_option maxHeartbeats 4000000 in
theorem objAt_no {w : World} {P : Nat} {o r m : Value} {ms : List MO} {G : Gr} (T : Five w P 30 o r m (.int .i64 G.next) (.int .i64 G.seed)) (h : GraphAt w o r m ms G) (hl : ms.length ≤ 1048576) (hok : gOk G = true) (x : Int) (hn : leads G x = false) :
    Calls Try.prog 40 #[.pointer (some ⟨P, 0, none⟩), .int .i64 x] w fun e w' => e = .returned (.pointer none) ∧ Below w.heap.size w w' := by
  obtain ⟨z0, z1, z2, z3, z4, _⟩ := five_cells T
  have RI := rootInRange_any x
  cases d : inR 0 5 x
  · rw [d] at RI
    clear z0 z1 z2 z3 z4 T h hn
    go_enter Try.func40, Try.ntmps40
    go_wp2_with (go_at_call 47; refine (RI _).mono ?_; rintro e w1 ⟨rfl, rfl⟩)
    go_ret
    exact ⟨rfl, Below.refl _ _⟩
  · have hL := leads_led hok d
    rw [hn] at hL
    have h1 : 0 ≤ x ∧ x ≤ 5 := by simpa [inR] using d
    obtain ⟨k, rfl⟩ : ∃ k : Nat, x = (k : Int) := ⟨x.toNat, by omega⟩
    have h6 := (gOk_parts hok).1
    have hk : k < G.roots.length := by omega
    rw [d] at RI
    obtain ⟨ea, hO, hR, hM⟩ := h
    have BD : Below w.heap.size w w.drew := (Below.refl _ _).drew
    have L := ledTo_any (w := w.drew) (orowAt_below hO.1 BD) (objs_slices hO) ea (gOk_rise hok) hl (G.roots.getD k refD)
    rw [show ledB G.objs (G.roots.getD k refD) = false from hL] at L
    have HBD : Hid _ := BD
    obtain ⟨ao, co, rfl, _⟩ := hO.1
    obtain ⟨a2, c2, rfl, hlc, hcm, _, hc⟩ := hR
    obtain ⟨b, off, rfl, hb, hcc⟩ := hc (by omega)
    have x0 := (hcc k hk).1
    have x1 := (hcc k hk).2
    have hk6 : k < 6 := by omega
    rw [h6] at z1
    clear z2 z3 z4 T hO hM hcc hc hn hL d hk h6 h1 hlc
    generalize G.roots.getD k refD = e0 at *
    obtain ⟨ek, en⟩ := e0
    go_enter Try.func40, Try.ntmps40
    have hk6' : (k : Int) < 6 := by omega
    clear BD
    go_wp2_with (first | (go_at_call 47; refine (RI _).mono ?_; rintro e w1 ⟨rfl, rfl⟩) | fail)
    go_region_law (go_simp; go_at_call 48; refine L.mono ?_; clear L; rintro e w1 ⟨k1, rfl, _, b1⟩; have HB1 : Hid _ := HBD.out.trans (b1.mono HBD.out.size); clear b1)
    all_goals go_wp2
    all_goals go_ret
    all_goals exact ⟨rfl, HB1⟩

set_option maxHeartbeats 4000000 in
theorem objAt_yes {w : World} {P : Nat} {r m : Value} {a1 : Option Addr} {n1 c1 : Nat} {ms : List MO} {G : Gr} (T : Five w P 30 (.slice a1 n1 c1) r m (.int .i64 G.next) (.int .i64 G.seed)) (h : GraphAt w (.slice a1 n1 c1) r m ms G) (hl : ms.length ≤ 1048576) (hok : gOk G = true) (x : Int) (hy : leads G x = true) :
    Calls Try.prog 40 #[.pointer (some ⟨P, 0, none⟩), .int .i64 x] w fun e w' => ∃ b off, a1 = some ⟨b, off, none⟩ ∧ e = .returned (.pointer (some ⟨b, off + plc G x * 5, none⟩)) ∧ Below w.heap.size w w' := by
  obtain ⟨z0, z1, z2, z3, z4, _⟩ := five_cells T
  have RI := rootInRange_any x
  obtain ⟨hpl, hpn⟩ := leads_plc hok hy
  have hd : inR 0 5 x = true := by simp only [leads, Bool.and_eq_true] at hy; exact hy.1
  have hL := leads_led hok hd
  rw [hy] at hL
  rw [hd] at RI
  have h1 : 0 ≤ x ∧ x ≤ 5 := by simpa [inR] using hd
  obtain ⟨k, rfl⟩ : ∃ k : Nat, x = (k : Int) := ⟨x.toNat, by omega⟩
  have h6 := (gOk_parts hok).1
  have hk : k < G.roots.length := by omega
  obtain ⟨ea, hO, hR, hM⟩ := h
  have hlen : ms.length = G.objs.length := by rw [← ea]; simp
  have BD : Below w.heap.size w w.drew := (Below.refl _ _).drew
  have HBD : Hid _ := BD
  have L := ledTo_any (w := w.drew) (orowAt_below hO.1 BD) (objs_slices hO) ea (gOk_rise hok) hl (G.roots.getD k refD)
  rw [show ledB G.objs (G.roots.getD k refD) = true from hL] at L
  rw [show ledP G.objs (G.roots.getD k refD) = plc G k from rfl] at L
  obtain ⟨ao, co, eo, hlco, hcmo, _, hco⟩ := hO.1
  injection eo with e1 e2 e3
  subst e1 e2 e3
  obtain ⟨b, off, rfl, hb, _⟩ := hco (by omega)
  obtain ⟨a2, c2, rfl, hlc, hcm, _, hc⟩ := hR
  obtain ⟨b2, off2, rfl, hb2, hcc⟩ := hc (by omega)
  have x0 := (hcc k hk).1
  have x1 := (hcc k hk).2
  have hk6 : k < 6 := by omega
  rw [h6] at z1
  have HT : Hid _ := T
  have hpm : plc G k < ms.length := by omega
  clear z2 z3 z4 T hO hM hcc hc hco hy hk h6 h1 hlc hpl hpn hlen ea hL hd
  generalize G.roots.getD k refD = e0 at *
  obtain ⟨ek, en⟩ := e0
  generalize hpp : plc G k = pl at *
  clear hpp
  go_enter Try.func40, Try.ntmps40
  have hk6' : (k : Int) < 6 := by omega
  clear BD
  go_wp2_with (first | (go_at_call 47; refine (RI _).mono ?_; rintro e w1 ⟨rfl, rfl⟩) | fail)
  go_region_law (go_simp; go_at_call 48; refine L.mono ?_; clear L; rintro e w1 ⟨i, rfl, hi, b1⟩; obtain rfl := hi (by trivial); have b2 := HBD.out.trans (b1.mono HBD.out.size); have T1 := five_below HT.out b2; obtain ⟨y0, y1, _, _, _, _⟩ := five_cells T1; have HB1 : Hid _ := b2; clear HT b1 b2 T1 z0 z1 x0 x1 hi)
  all_goals go_wp2
  all_goals go_ret
  all_goals exact ⟨b, off, rfl, rfl, HB1⟩

end Go.Proofs.Ythldaifnlnbpgaa.gr
