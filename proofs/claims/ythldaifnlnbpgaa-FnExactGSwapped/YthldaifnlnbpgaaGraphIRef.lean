/-
  Chapter 6 as the program has it: is a ref right, are lists of refs?
  Made from the template GraphIRef.
-/
import Derived.Test.YthldaifnlnbpgaaGraphM
import Derived.Test.YthldaifnlnbpgaaGraphIShape
import Derived.Test.YthldaifnlnbpgaaGraphISearch
namespace Go.Proofs.Ythldaifnlnbpgaa.gr
open Go.RowKit rows heads
set_option maxRecDepth 100000

theorem endsM {ms : List MO} {os : List Ob} (e : ms.map MO.abs = os) {id : Int} {i : Nat} (h : EndsM ms id i) : Ends os id i := by
  subst e
  have g : ∀ t, ((ms.map MO.abs).getD t obD).id = (ms.getD t moD).id := fun t => by rw [abs_getD]; rfl
  refine ⟨by simpa using h.1, fun t ht => by rw [g]; exact h.2.1 t ht, fun t h1 h2 => by rw [g]; exact h.2.2 t h1 (by simpa using h2)⟩
theorem riseM {ms : List MO} {os : List Ob} (e : ms.map MO.abs = os) (h : Rise os) : RiseM ms := by
  subst e
  have g : ∀ t, ((ms.map MO.abs).getD t obD).id = (ms.getD t moD).id := fun t => by rw [abs_getD]; rfl
  intro i j hij hj
  have := h i j hij (by simpa using hj)
  rw [g, g] at this
  exact this


set_option maxHeartbeats 2000000 in
theorem refOk_any {w : World} {v : Value} {ms : List MO} {os : List Ob} (h : OrowAt w v ms) (hsl : Slices ms) (ea : ms.map MO.abs = os) (hr : Rise os) (hl : ms.length ≤ 1048576) (r : Rf) :
    Calls Try.prog 67 #[rv r, v] w fun e w' => e = .returned (.bool (refOk os r)) ∧ Below w.heap.size w w' := by
  have S := shapeOf_any r (w.alloc (rb r))
  have C := shv_cases r
  have HP : Hid (∀ W, Below w.heap.size w W → ∀ id, _) := fun W hW id => placeOf_any (orowAt_below h hW) hsl (riseM ea hr) hl id
  have hlen : ms.length = os.length := by rw [← ea]; simp
  have HI : Hid (∀ id i, EndsM ms id i → (decide (i < ms.length) && decide ((ms.getD i moD).id = id)) = decide (0 ≤ atI os id)) := fun id i hE => by
    have := ends_is hr (endsM ea hE)
    rw [← this, ← hlen, ← ea, abs_getD]
    rfl
  obtain ⟨a, cap, rfl, hlc, hcm, _, hc⟩ := h
  clear hc
  obtain ⟨k, n⟩ := r
  have B : Below w.heap.size w (w.alloc (rb (k, n))) := (Below.refl _ w).alloc (Nat.le_refl _) _
  have hsz : w.heap.size ≤ (w.alloc (rb (k, n))).heap.size := B.size
  have HB : Hid _ := B
  clear B hlen
  generalize hs : shv (k, n) = sv at *
  obtain ⟨RV, hRV⟩ : ∃ RV, refOk os (k, n) = RV := ⟨_, rfl⟩
  rw [hRV]
  have HRV : Hid _ := hRV
  clear hs hRV
  go_enter Try.func67, Try.ntmps67
  go_wp2_with fail
  refine S.mono ?_
  rintro e w1 ⟨rfl, b1⟩
  have B1 := HB.out.trans (b1.mono hsz)
  have sz1 := B1.size
  have HB1 : Hid _ := B1
  clear S HB b1 B1
  rcases C with ⟨c, rfl⟩ | ⟨c, cc, rfl⟩ | ⟨c, rfl⟩ | ⟨c, c0, c1, rfl⟩
  · injection c with d1 d2
    subst d1 d2
    have ER : Hid (RV = true) := by show _ = _; rw [← HRV.out]; simp [refOk]
    have a1 := as_nothing_nothing
    have a2 := as_nothing_number
    have a3 := as_nothing_leading
    clear HRV HP HI
    go_wp2
    go_ret
    exact ⟨by rw [ER.out]; rfl, HB1⟩
  · subst c
    have ER : Hid (RV = true) := by show _ = _; rw [← HRV.out]; simpa [refOk] using cc
    have a1 := as_number_nothing
    have a2 := as_number_number
    have a3 := as_number_leading
    clear HRV HP HI cc
    go_wp2
    go_ret
    exact ⟨by rw [ER.out]; rfl, HB1⟩
  · subst c
    have ER : Hid (RV = decide (0 ≤ atI os n)) := by show _ = _; rw [← HRV.out]; simp [refOk]
    have a1 := as_leading_nothing
    have a2 := as_leading_number
    have a3 := as_leading_leading
    have P := HP.out (w1.alloc (.cells #[.int .i64 n] 93)) (HB1.out.alloc sz1 _) n
    have B2 : Below w.heap.size w (w1.alloc (.cells #[.int .i64 n] 93)) := HB1.out.alloc sz1 _
    have HB2 : Hid _ := B2
    have sz2 := B2.size
    clear HRV HP B2
    go_wp2_with (go_at_call 57; refine P.mono ?_; rintro e w2 ⟨i, hE, rfl, b2⟩; have HV : Hid _ := HI.out n i hE; have HB3 : Hid _ := HB2.out.trans (b2.mono sz2); clear b2 hE P)
    go_ret
    exact ⟨by rw [ER.out, ← HV.out]; rfl, HB3⟩
  · have ER : Hid (RV = false) := by
      show _ = _
      rw [← HRV.out]
      unfold refOk
      by_cases k0 : k = 0
      · subst k0
        have : ¬ n = 0 := fun e => c0 ⟨rfl, e⟩
        simp [this]
      · by_cases k1 : k = 1
        · subst k1
          cases d : inR (-100000) 100000 n
          · simp
          · exact absurd ⟨rfl, d⟩ c1
        · simp [k0, k1, c]
    have a1 := as_nil_nothing
    have a2 := as_nil_number
    have a3 := as_nil_leading
    clear HRV HP HI c0 c1
    go_wp2
    go_ret
    exact ⟨by rw [ER.out]; rfl, HB1⟩

set_option maxHeartbeats 2000000 in
theorem refsOk_any {w : World} {v u : Value} {ms : List MO} {os : List Ob} {es : List Rf} (hR : RefsAt w u es) (h : OrowAt w v ms) (hsl : Slices ms) (ea : ms.map MO.abs = os) (hr : Rise os) (hl : ms.length ≤ 1048576) (hle : es.length ≤ 1048576) :
    Calls Try.prog 60 #[u, v] w fun e w' => e = .returned (.bool (refsB os es)) ∧ Below w.heap.size w w' := by
  have HO : Hid (∀ W, Below w.heap.size w W → ∀ r, _) := fun W hW r => refOk_any (orowAt_below h hW) hsl ea hr hl r
  obtain ⟨a1, c1, rfl, _, _, _, _⟩ := h
  obtain ⟨a, cap, rfl, hlc, hcm, _, hc⟩ := hR
  have HC : Hid _ := hc
  clear hc
  obtain ⟨RV, hRV⟩ : ∃ RV, refsB os es = RV := ⟨_, rfl⟩
  rw [hRV]
  have HRV : Hid _ := hRV
  clear hRV
  go_enter Try.func60, Try.ntmps60
  go_wp2_with fail
  go_loopw [9] (fun p wr => ∃ k : Nat, k ≤ es.length ∧ p = .int .i64 k ∧ (∀ q, q < k → refOk os (es.getD q refD) = true) ∧ Below w.heap.size w wr) (fun p _ => es.length - (intOf p).toNat)
  case atStart => exact ⟨0, Nat.zero_le _, rfl, fun q hq => by omega, Below.refl _ _⟩
  case round =>
    obtain ⟨k, hk, rfl, hall, hB⟩ := hrel
    have HA : Hid _ := hall
    have HB : Hid _ := hB
    have szr := hB.size
    clear hall
    by_cases hlt : k < es.length
    · obtain ⟨b, off, rfl, hb, hcc⟩ := HC.out (by omega)
      have c0 := (hB.cell (p := ⟨b, off + k * 2, none⟩) hb).trans (hcc k hlt).1
      have c1 := (hB.cell (p := ⟨b, off + k * 2 + 1, none⟩) hb).trans (hcc k hlt).2
      have HX : Hid (refOk os (es.getD k refD) = false → RV = false) := fun e => by rw [← HRV.out]; exact rangeAll_not hlt e
      have HY : Hid (refOk os (es.getD k refD) = true → ∀ q, q < k + 1 → refOk os (es.getD q refD) = true) := fun e q hq => by
        by_cases e' : q = k
        · rw [e']; exact e
        · exact HA.out q (by omega)
      have B2 : Below w.heap.size w (wr.alloc (rb (es.getD k refD))) := hB.alloc szr _
      have W := HO.out _ B2 (es.getD k refD)
      clear hcc HC hB
      generalize es.getD k refD = x at *
      have HB2 : Hid _ := B2
      have sz2 := B2.size
      clear B2
      obtain ⟨x, s⟩ := x
      cases d : refOk os (x, s)
      · have ER : Hid _ := HX.out d
        rw [d] at W
        clear HX HY HA HRV HO HB d
        go_wp2_with (go_at_call 67; refine W.mono ?_; rintro e w1 ⟨rfl, b1⟩; have HB1 : Hid _ := HB2.out.trans (b1.mono sz2); clear b1 W)
        go_ret
        exact ⟨by rw [ER.out]; rfl, HB1⟩
      · have HY2 : Hid _ := HY.out d
        rw [d] at W
        clear HX HY HA HRV HO HB d
        go_wp2_with (go_at_call 67; refine W.mono ?_; rintro e w1 ⟨rfl, b1⟩; have HB1 : Hid _ := HB2.out.trans (b1.mono sz2); clear b1 W)
        exact ⟨⟨k + 1, by omega, by go_num, HY2, HB1⟩, by simp [intOf]; omega⟩
    · have e : k = es.length := by omega
      subst e
      have ER : Hid (RV = true) := by show _ = _; rw [← HRV.out]; exact rangeAll_yes HA.out
      clear HA HC hB HRV HO
      go_wp2
      go_ret
      exact ⟨by rw [ER.out]; rfl, HB⟩

set_option maxHeartbeats 2000000 in
theorem leadsAll_any {w : World} {u : Value} {es : List Rf} (hR : RefsAt w u es) (hle : es.length ≤ 1048576) :
    Calls Try.prog 61 #[u] w fun e w' => e = .returned (.bool (leadB es)) ∧ Below w.heap.size w w' := by
  obtain ⟨a, cap, rfl, hlc, hcm, _, hc⟩ := hR
  have HC : Hid _ := hc
  clear hc
  obtain ⟨RV, hRV⟩ : ∃ RV, leadB es = RV := ⟨_, rfl⟩
  rw [hRV]
  have HRV : Hid _ := hRV
  clear hRV
  go_enter Try.func61, Try.ntmps61
  go_wp2_with fail
  go_loopw [9] (fun p wr => ∃ k : Nat, k ≤ es.length ∧ p = .int .i64 k ∧ (∀ q, q < k → ((es.getD q refD).1 == 2) = true) ∧ Below w.heap.size w wr) (fun p _ => es.length - (intOf p).toNat)
  case atStart => exact ⟨0, Nat.zero_le _, rfl, fun q hq => by omega, Below.refl _ _⟩
  case round =>
    obtain ⟨k, hk, rfl, hall, hB⟩ := hrel
    have HA : Hid _ := hall
    have HB : Hid _ := hB
    have szr := hB.size
    clear hall
    by_cases hlt : k < es.length
    · obtain ⟨b, off, rfl, hb, hcc⟩ := HC.out (by omega)
      have c0 := (hB.cell (p := ⟨b, off + k * 2, none⟩) hb).trans (hcc k hlt).1
      have c1 := (hB.cell (p := ⟨b, off + k * 2 + 1, none⟩) hb).trans (hcc k hlt).2
      have HX : Hid (((es.getD k refD).1 == 2) = false → RV = false) := fun e => by rw [← HRV.out]; exact rangeAll_not hlt e
      have HY : Hid (((es.getD k refD).1 == 2) = true → ∀ q, q < k + 1 → ((es.getD q refD).1 == 2) = true) := fun e q hq => by
        by_cases e' : q = k
        · rw [e']; exact e
        · exact HA.out q (by omega)
      have B2 : Below w.heap.size w (wr.alloc (rb (es.getD k refD))) := hB.alloc szr _
      have W := leadsTo_any (es.getD k refD) (wr.alloc (rb (es.getD k refD)))
      clear hcc HC hB
      generalize es.getD k refD = x at *
      have HB2 : Hid _ := B2
      have sz2 := B2.size
      clear B2
      obtain ⟨x, s⟩ := x
      simp only at W HX HY
      generalize (if x = 2 then s else 0) = y at W
      cases d : (x == 2)
      · have ER : Hid _ := HX.out d
        rw [d] at W
        clear HX HY HA HRV HB d
        go_wp2_with (go_at_call 56; refine W.mono ?_; rintro e w1 ⟨rfl, b1⟩; have HB1 : Hid _ := HB2.out.trans (b1.mono sz2); clear b1 W)
        go_ret
        exact ⟨by rw [ER.out]; rfl, HB1⟩
      · have HY2 : Hid _ := HY.out d
        rw [d] at W
        clear HX HY HA HRV HB d
        go_wp2_with (go_at_call 56; refine W.mono ?_; rintro e w1 ⟨rfl, b1⟩; have HB1 : Hid _ := HB2.out.trans (b1.mono sz2); clear b1 W)
        exact ⟨⟨k + 1, by omega, by go_num, HY2, HB1⟩, by simp [intOf]; omega⟩
    · have e : k = es.length := by omega
      subst e
      have ER : Hid (RV = true) := by show _ = _; rw [← HRV.out]; exact rangeAll_yes HA.out
      clear HA HC hB HRV
      go_wp2
      go_ret
      exact ⟨by rw [ER.out]; rfl, HB⟩
end Go.Proofs.Ythldaifnlnbpgaa.gr
