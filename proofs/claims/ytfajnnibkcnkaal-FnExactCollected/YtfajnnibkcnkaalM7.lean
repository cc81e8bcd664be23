/-
  Chapter 6 as the program has it: is a ref right, are lists of refs? Chapter 6 as the program has it: is a graph right? Chapter 6 as the program has it: GraphOk. Chapter 6 as the program has it: a change made in a copy. Chapter 6 as the program has it: the place to which a ref leads.
-/
import Derived.Test.YtfajnnibkcnkaalM6
import Derived.Shelf.Abstract
import Derived.Lib.Hide
namespace Go.Proofs.Ytfajnnibkcnkaal.gr
open Go.RowKit rows heads
set_option maxRecDepth 100000

theorem endsM {ms : List MO} {os : List Ob} (e : ms.map MO.abs = os) {id : Int} {i : Nat} (h : EndsM ms id i) : Ends os id i := by
  subst e
  have g : ∀ t, ((ms.map MO.abs).getD t obD).id = (ms.getD t moD).id := fun t => by rw [abs_getD]; rfl
  refine ⟨by simpa using h.1, fun t ht => by rw [g]; exact h.2.1 t ht, fun t h1 h2 => by rw [g]; exact h.2.2 t h1 (by simpa using h2)⟩
theorem riseM {ms : List MO} {os : List Ob} (e : ms.map MO.abs = os) (h : Rise os) : RiseM ms := by
  subst e
  have g : ∀ t, ((ms.map MO.abs).getD t obD).id = (ms.getD t moD).id := fun t => by rw [abs_getD]; rfl
  intro i j hij hj
  have := h i j hij (by simpa using hj)
  rw [g, g] at this
  exact this


set_option maxHeartbeats 2000000 in
theorem refOk_any {w : World} {v : Value} {ms : List MO} {os : List Ob} (h : OrowAt w v ms) (hsl : Slices ms) (ea : ms.map MO.abs = os) (hr : Rise os) (hl : ms.length ≤ 1048576) (r : Rf) :
    Calls Try.prog 113 #[rv r, v] w fun e w' => e = .returned (.bool (refOk os r)) ∧ Below w.heap.size w w' := by
  have S := shapeOf_any r (w.alloc (rb r))
  have C := shv_cases r
  have HP : Hid (∀ W, Below w.heap.size w W → ∀ id, _) := fun W hW id => placeOf_any (orowAt_below h hW) hsl (riseM ea hr) hl id
  have hlen : ms.length = os.length := by rw [← ea]; simp
  have HI : Hid (∀ id i, EndsM ms id i → (decide (i < ms.length) && decide ((ms.getD i moD).id = id)) = decide (0 ≤ atI os id)) := fun id i hE => by
    have := ends_is hr (endsM ea hE)
    rw [← this, ← hlen, ← ea, abs_getD]
    rfl
  obtain ⟨a, cap, rfl, hlc, hcm, _, hc⟩ := h
  clear hc
  obtain ⟨k, n⟩ := r
  have B : Below w.heap.size w (w.alloc (rb (k, n))) := (Below.refl _ w).alloc (Nat.le_refl _) _
  have hsz : w.heap.size ≤ (w.alloc (rb (k, n))).heap.size := B.size
  have HB : Hid _ := B
  clear B hlen
  generalize hs : shv (k, n) = sv at *
  obtain ⟨RV, hRV⟩ : ∃ RV, refOk os (k, n) = RV := ⟨_, rfl⟩
  rw [hRV]
  have HRV : Hid _ := hRV
  clear hs hRV
  go_enter Try.func113, Try.ntmps113
  go_wp2_with fail
  refine S.mono ?_
  rintro e w1 ⟨rfl, b1⟩
  have B1 := HB.out.trans (b1.mono hsz)
  have sz1 := B1.size
  have HB1 : Hid _ := B1
  clear S HB b1 B1
  rcases C with ⟨c, rfl⟩ | ⟨c, cc, rfl⟩ | ⟨c, rfl⟩ | ⟨c, c0, c1, rfl⟩
  · injection c with d1 d2
    subst d1 d2
    have ER : Hid (RV = true) := by show _ = _; rw [← HRV.out]; simp [refOk]
    have a1 := as_nothing_nothing
    have a2 := as_nothing_number
    have a3 := as_nothing_leading
    clear HRV HP HI
    go_wp2
    go_ret
    exact ⟨by rw [ER.out]; rfl, HB1⟩
  · subst c
    have ER : Hid (RV = true) := by show _ = _; rw [← HRV.out]; simpa [refOk] using cc
    have a1 := as_number_nothing
    have a2 := as_number_number
    have a3 := as_number_leading
    clear HRV HP HI cc
    go_wp2
    go_ret
    exact ⟨by rw [ER.out]; rfl, HB1⟩
  · subst c
    have ER : Hid (RV = decide (0 ≤ atI os n)) := by show _ = _; rw [← HRV.out]; simp [refOk]
    have a1 := as_leading_nothing
    have a2 := as_leading_number
    have a3 := as_leading_leading
    have P := HP.out (w1.alloc (.cells #[.int .i64 n] 132)) (HB1.out.alloc sz1 _) n
    have B2 : Below w.heap.size w (w1.alloc (.cells #[.int .i64 n] 132)) := HB1.out.alloc sz1 _
    have HB2 : Hid _ := B2
    have sz2 := B2.size
    clear HRV HP B2
    go_wp2_with (go_at_call 97; refine P.mono ?_; rintro e w2 ⟨i, hE, rfl, b2⟩; have HV : Hid _ := HI.out n i hE; have HB3 : Hid _ := HB2.out.trans (b2.mono sz2); clear b2 hE P)
    go_ret
    exact ⟨by rw [ER.out, ← HV.out]; rfl, HB3⟩
  · have ER : Hid (RV = false) := by
      show _ = _
      rw [← HRV.out]
      unfold refOk
      by_cases k0 : k = 0
      · subst k0
        have : ¬ n = 0 := fun e => c0 ⟨rfl, e⟩
        simp [this]
      · by_cases k1 : k = 1
        · subst k1
          cases d : inR (-100000) 100000 n
          · simp
          · exact absurd ⟨rfl, d⟩ c1
        · simp [k0, k1, c]
    have a1 := as_nil_nothing
    have a2 := as_nil_number
    have a3 := as_nil_leading
    clear HRV HP HI c0 c1
    go_wp2
    go_ret
    exact ⟨by rw [ER.out]; rfl, HB1⟩

set_option maxHeartbeats 2000000 in
theorem refsOk_any {w : World} {v u : Value} {ms : List MO} {os : List Ob} {es : List Rf} (hR : RefsAt w u es) (h : OrowAt w v ms) (hsl : Slices ms) (ea : ms.map MO.abs = os) (hr : Rise os) (hl : ms.length ≤ 1048576) (hle : es.length ≤ 1048576) :
    Calls Try.prog 94 #[u, v] w fun e w' => e = .returned (.bool (refsB os es)) ∧ Below w.heap.size w w' := by
  have HO : Hid (∀ W, Below w.heap.size w W → ∀ r, _) := fun W hW r => refOk_any (orowAt_below h hW) hsl ea hr hl r
  obtain ⟨a1, c1, rfl, _, _, _, _⟩ := h
  obtain ⟨a, cap, rfl, hlc, hcm, _, hc⟩ := hR
  have HC : Hid _ := hc
  clear hc
  obtain ⟨RV, hRV⟩ : ∃ RV, refsB os es = RV := ⟨_, rfl⟩
  rw [hRV]
  have HRV : Hid _ := hRV
  clear hRV
  go_enter Try.func94, Try.ntmps94
  go_wp2_with fail
  go_loopw [9] (fun p wr => ∃ k : Nat, k ≤ es.length ∧ p = .int .i64 k ∧ (∀ q, q < k → refOk os (es.getD q refD) = true) ∧ Below w.heap.size w wr) (fun p _ => es.length - (intOf p).toNat)
  case atStart => exact ⟨0, Nat.zero_le _, rfl, fun q hq => by omega, Below.refl _ _⟩
  case round =>
    obtain ⟨k, hk, rfl, hall, hB⟩ := hrel
    have HA : Hid _ := hall
    have HB : Hid _ := hB
    have szr := hB.size
    clear hall
    by_cases hlt : k < es.length
    · obtain ⟨b, off, rfl, hb, hcc⟩ := HC.out (by omega)
      have c0 := (hB.cell (p := ⟨b, off + k * 2, none⟩) hb).trans (hcc k hlt).1
      have c1 := (hB.cell (p := ⟨b, off + k * 2 + 1, none⟩) hb).trans (hcc k hlt).2
      have HX : Hid (refOk os (es.getD k refD) = false → RV = false) := fun e => by rw [← HRV.out]; exact rangeAll_not hlt e
      have HY : Hid (refOk os (es.getD k refD) = true → ∀ q, q < k + 1 → refOk os (es.getD q refD) = true) := fun e q hq => by
        by_cases e' : q = k
        · rw [e']; exact e
        · exact HA.out q (by omega)
      have B2 : Below w.heap.size w (wr.alloc (rb (es.getD k refD))) := hB.alloc szr _
      have W := HO.out _ B2 (es.getD k refD)
      clear hcc HC hB
      generalize es.getD k refD = x at *
      have HB2 : Hid _ := B2
      have sz2 := B2.size
      clear B2
      obtain ⟨x, s⟩ := x
      cases d : refOk os (x, s)
      · have ER : Hid _ := HX.out d
        rw [d] at W
        clear HX HY HA HRV HO HB d
        go_wp2_with (go_at_call 113; refine W.mono ?_; rintro e w1 ⟨rfl, b1⟩; have HB1 : Hid _ := HB2.out.trans (b1.mono sz2); clear b1 W)
        go_ret
        exact ⟨by rw [ER.out]; rfl, HB1⟩
      · have HY2 : Hid _ := HY.out d
        rw [d] at W
        clear HX HY HA HRV HO HB d
        go_wp2_with (go_at_call 113; refine W.mono ?_; rintro e w1 ⟨rfl, b1⟩; have HB1 : Hid _ := HB2.out.trans (b1.mono sz2); clear b1 W)
        exact ⟨⟨k + 1, by omega, by go_num, HY2, HB1⟩, by simp [intOf]; omega⟩
    · have e : k = es.length := by omega
      subst e
      have ER : Hid (RV = true) := by show _ = _; rw [← HRV.out]; exact rangeAll_yes HA.out
      clear HA HC hB HRV HO
      go_wp2
      go_ret
      exact ⟨by rw [ER.out]; rfl, HB⟩

set_option maxHeartbeats 2000000 in
theorem leadsAll_any {w : World} {u : Value} {es : List Rf} (hR : RefsAt w u es) (hle : es.length ≤ 1048576) :
    Calls Try.prog 95 #[u] w fun e w' => e = .returned (.bool (leadB es)) ∧ Below w.heap.size w w' := by
  obtain ⟨a, cap, rfl, hlc, hcm, _, hc⟩ := hR
  have HC : Hid _ := hc
  clear hc
  obtain ⟨RV, hRV⟩ : ∃ RV, leadB es = RV := ⟨_, rfl⟩
  rw [hRV]
  have HRV : Hid _ := hRV
  clear hRV
  go_enter Try.func95, Try.ntmps95
  go_wp2_with fail
  go_loopw [9] (fun p wr => ∃ k : Nat, k ≤ es.length ∧ p = .int .i64 k ∧ (∀ q, q < k → ((es.getD q refD).1 == 2) = true) ∧ Below w.heap.size w wr) (fun p _ => es.length - (intOf p).toNat)
  case atStart => exact ⟨0, Nat.zero_le _, rfl, fun q hq => by omega, Below.refl _ _⟩
  case round =>
    obtain ⟨k, hk, rfl, hall, hB⟩ := hrel
    have HA : Hid _ := hall
    have HB : Hid _ := hB
    have szr := hB.size
    clear hall
    by_cases hlt : k < es.length
    · obtain ⟨b, off, rfl, hb, hcc⟩ := HC.out (by omega)
      have c0 := (hB.cell (p := ⟨b, off + k * 2, none⟩) hb).trans (hcc k hlt).1
      have c1 := (hB.cell (p := ⟨b, off + k * 2 + 1, none⟩) hb).trans (hcc k hlt).2
      have HX : Hid (((es.getD k refD).1 == 2) = false → RV = false) := fun e => by rw [← HRV.out]; exact rangeAll_not hlt e
      have HY : Hid (((es.getD k refD).1 == 2) = true → ∀ q, q < k + 1 → ((es.getD q refD).1 == 2) = true) := fun e q hq => by
        by_cases e' : q = k
        · rw [e']; exact e
        · exact HA.out q (by omega)
      have B2 : Below w.heap.size w (wr.alloc (rb (es.getD k refD))) := hB.alloc szr _
      have W := leadsTo_any (es.getD k refD) (wr.alloc (rb (es.getD k refD)))
      clear hcc HC hB
      generalize es.getD k refD = x at *
      have HB2 : Hid _ := B2
      have sz2 := B2.size
      clear B2
      obtain ⟨x, s⟩ := x
      simp only at W HX HY
      generalize (if x = 2 then s else 0) = y at W
      cases d : (x == 2)
      · have ER : Hid _ := HX.out d
        rw [d] at W
        clear HX HY HA HRV HB d
        go_wp2_with (go_at_call 96; refine W.mono ?_; rintro e w1 ⟨rfl, b1⟩; have HB1 : Hid _ := HB2.out.trans (b1.mono sz2); clear b1 W)
        go_ret
        exact ⟨by rw [ER.out]; rfl, HB1⟩
      · have HY2 : Hid _ := HY.out d
        rw [d] at W
        clear HX HY HA HRV HB d
        go_wp2_with (go_at_call 96; refine W.mono ?_; rintro e w1 ⟨rfl, b1⟩; have HB1 : Hid _ := HB2.out.trans (b1.mono sz2); clear b1 W)
        exact ⟨⟨k + 1, by omega, by go_num, HY2, HB1⟩, by simp [intOf]; omega⟩
    · have e : k = es.length := by omega
      subst e
      have ER : Hid (RV = true) := by show _ = _; rw [← HRV.out]; exact rangeAll_yes HA.out
      clear HA HC hB HRV
      go_wp2
      go_ret
      exact ⟨by rw [ER.out]; rfl, HB⟩
end Go.Proofs.Ytfajnnibkcnkaal.gr
namespace Go.Proofs.Ytfajnnibkcnkaal.gr
open Go.RowKit rows heads
set_option maxRecDepth 100000

set_option maxHeartbeats 1000000 in
theorem headOf_any (m : MO) {a : Option Addr} {n c : Nat} (hs : m.sv = .slice a n c) (w : World) :
    Calls Try.prog 93 #[ov m] w fun e w' => e = .returned (hv (n : Int) m.fmt m.cls m.hash false false) ∧ Below w.heap.size w w' := by
  obtain ⟨i, k, f, g, sv, sl⟩ := m
  simp only at hs
  subst hs
  go_enter Try.func93, Try.ntmps93
  go_wp2
  have A : HeadAt ((w.alloc (ob ⟨i, k, f, g, .slice a n c, sl⟩)).alloc (hb (n : Int) f k g false false)) (w.heap.size + 1) (n : Int) f k g false false := by
    have := headAt_new (w.alloc (ob ⟨i, k, f, g, .slice a n c, sl⟩)) (n : Int) f k g false false
    simpa using this
  exact bodyPost_ret (res_head rfl rfl A) rfl ⟨rfl, ((Below.refl _ w).alloc (Nat.le_refl _) _).alloc (by simp) _⟩

set_option maxHeartbeats 2000000 in
theorem idsOk_any {w : World} {v : Value} {ms : List MO} {os : List Ob} (h : OrowAt w v ms) (hsl : Slices ms) (ea : ms.map MO.abs = os) (hl : ms.length ≤ 1048576) (next : Int) :
    Calls Try.prog 66 #[v, .int .i64 next] w fun e w' => e = .returned (.bool (idsB os next)) ∧ Below w.heap.size w w' := by
  have hlen : os.length = ms.length := by rw [← ea]; simp
  have hid : ∀ i, (os.getD i obD).id = (ms.getD i moD).id := fun i => by rw [← ea, abs_getD]; rfl
  obtain ⟨a, cap, rfl, hlc, hcm, _, hc⟩ := h
  have HC : Hid _ := hc
  have HS : Hid _ := hsl
  have HLEN : Hid _ := hlen
  have HID : Hid _ := hid
  clear hc hsl hlen hid
  obtain ⟨RV, hRV⟩ : ∃ RV, idsB os next = RV := ⟨_, rfl⟩
  rw [hRV]
  have HRV : Hid _ := hRV
  clear hRV
  go_enter Try.func66, Try.ntmps66
  go_wp2_with fail
  go_loopw [5, 10] (fun p q wr => ∃ (k : Nat) (la : Int), k ≤ ms.length ∧ p = .int .i64 la ∧ q = .int .i64 k ∧ Hid (la = lastOf os k) ∧ (∀ i, i < k → (decide (lastOf os i < (os.getD i obD).id) && decide ((os.getD i obD).id < next)) = true) ∧ Below w.heap.size w wr) (fun _ q _ => ms.length - (intOf q).toNat)
  case atStart => exact ⟨0, 0, Nat.zero_le _, rfl, rfl, rfl, fun q hq => by omega, Below.refl _ _⟩
  case round =>
    obtain ⟨k, la, hk, rfl, rfl, HLA, hall, hB⟩ := hrel
    have HA : Hid _ := hall
    have HB : Hid _ := hB
    have szr := hB.size
    clear hall
    by_cases hlt : k < ms.length
    · obtain ⟨b, off, rfl, hb, hcc⟩ := HC.out (by omega)
      obtain ⟨x0, x1, x2, x3, x4⟩ := hcc k hlt
      have c0 := (hB.cell (p := ⟨b, off + k * 5, none⟩) hb).trans x0
      have c1 := (hB.cell (p := ⟨b, off + k * 5 + 1, none⟩) hb).trans x1
      have c2 := (hB.cell (p := ⟨b, off + k * 5 + 2, none⟩) hb).trans x2
      have c3 := (hB.cell (p := ⟨b, off + k * 5 + 3, none⟩) hb).trans x3
      have c4 := (hB.cell (p := ⟨b, off + k * 5 + 4, none⟩) hb).trans x4
      obtain ⟨sa, sn, sc, hsv⟩ := HS.out _ (mem_getD hlt)
      have HX : Hid (¬ (la < (ms.getD k moD).id ∧ (ms.getD k moD).id < next) → RV = false) := fun e => by
        rw [← HRV.out]
        refine rangeAll_not (i := k) (by rw [HLEN.out]; exact hlt) ?_
        rw [HID.out, ← HLA.out]
        cases d : (decide (la < (ms.getD k moD).id) && decide ((ms.getD k moD).id < next))
        · rfl
        · simp only [Bool.and_eq_true, decide_eq_true_eq] at d; exact absurd d e
      have HY : Hid (la < (ms.getD k moD).id ∧ (ms.getD k moD).id < next → ∀ q, q < k + 1 → (decide (lastOf os q < (os.getD q obD).id) && decide ((os.getD q obD).id < next)) = true) := fun e q hq => by
        by_cases e' : q = k
        · rw [e', HID.out, ← HLA.out, decide_eq_true e.1, decide_eq_true e.2]; rfl
        · exact HA.out q (by omega)
      have HN : Hid ((ms.getD k moD).id = lastOf os (k + 1)) := (HID.out k).symm
      have HB2 : Hid (Below w.heap.size w (wr.alloc (ob (ms.getD k moD)))) := hB.alloc szr _
      clear hcc HC HS hB x0 x1 x2 x3 x4 HLEN HID HA HB HRV HLA
      generalize ms.getD k moD = x at *
      obtain ⟨xi, xc, xf, xh, xv, xs⟩ := x
      simp only at hsv HX HY HN
      subst hsv
      by_cases d1 : xi ≤ la
      · have ER : Hid _ := HX.out (by omega)
        clear HX HY HN
        go_wp2
        go_ret
        exact ⟨by rw [ER.out]; rfl, HB2⟩
      · by_cases d2 : xi ≥ next
        · have ER : Hid _ := HX.out (by omega)
          clear HX HY HN
          go_wp2
          go_ret
          exact ⟨by rw [ER.out]; rfl, HB2⟩
        · have HY2 : Hid _ := HY.out (by omega)
          clear HX HY
          go_wp2
          exact ⟨⟨k + 1, xi, by omega, rfl, by go_num, HN, HY2, HB2⟩, by simp [intOf]; omega⟩
    · have e : k = ms.length := by omega
      subst e
      have ER : Hid (RV = true) := by show _ = _; rw [← HRV.out]; exact rangeAll_yes (fun i hi => HA.out i (by rw [HLEN.out] at hi; exact hi))
      clear HA HC HS hB HRV HLA HLEN HID
      go_wp2
      go_ret
      exact ⟨by rw [ER.out]; rfl, HB⟩

set_option maxHeartbeats 2000000 in
theorem objsOk_any {w : World} {v : Value} {ms : List MO} {os : List Ob} (h : ObjsAt w v ms) (ea : ms.map MO.abs = os) (hr : Rise os) (hl : ms.length ≤ 1048576) (hsz : ∀ m ∈ ms, m.slots.length ≤ 1048576) :
    Calls Try.prog 67 #[v] w fun e w' => e = .returned (.bool (objsB os)) ∧ Below w.heap.size w w' := by
  have hlen : os.length = ms.length := by rw [← ea]; simp
  have hob : ∀ i, os.getD i obD = (ms.getD i moD).abs := fun i => by rw [← ea, abs_getD]
  have hsl := objs_slices h
  have HROW : Hid _ := h.1
  have HREF : Hid _ := h.2
  obtain ⟨⟨a, cap, rfl, hlc, hcm, _, hc⟩, _⟩ := h
  have HC : Hid _ := hc
  have HLEN : Hid _ := hlen
  have HOB : Hid _ := hob
  have HSZ : Hid _ := hsz
  have HSL : Hid _ := hsl
  clear hc hlen hob hsz hsl
  obtain ⟨RV, hRV⟩ : ∃ RV, objsB os = RV := ⟨_, rfl⟩
  rw [hRV]
  have HRV : Hid _ := hRV
  clear hRV
  go_enter Try.func67, Try.ntmps67
  go_wp2_with fail
  go_loopw [7] (fun q wr => ∃ k : Nat, k ≤ ms.length ∧ q = .int .i64 k ∧ (∀ i, i < k → objB os i = true) ∧ Below w.heap.size w wr) (fun q _ => ms.length - (intOf q).toNat)
  case atStart => exact ⟨0, Nat.zero_le _, rfl, fun q hq => by omega, Below.refl _ _⟩
  case round =>
    obtain ⟨k, hk, rfl, hall, hB⟩ := hrel
    have HA : Hid _ := hall
    have HB : Hid _ := hB
    have szr := hB.size
    clear hall
    by_cases hlt : k < ms.length
    · have HRO : Hid (∀ W, Below w.heap.size w W → _) := fun W hW => refsOk_any (refsAt_below (HREF.out _ (mem_getD hlt)) hW) (orowAt_below HROW.out hW) HSL.out ea hr hl (HSZ.out _ (mem_getD hlt))
      obtain ⟨sa, sc, hsv, _⟩ := HREF.out _ (mem_getD hlt)
      obtain ⟨b, off, rfl, hb, hcc⟩ := HC.out (by omega)
      obtain ⟨x0, x1, x2, x3, x4⟩ := hcc k hlt
      have c0 := (hB.cell (p := ⟨b, off + k * 5, none⟩) hb).trans x0
      have c1 := (hB.cell (p := ⟨b, off + k * 5 + 1, none⟩) hb).trans x1
      have c2 := (hB.cell (p := ⟨b, off + k * 5 + 2, none⟩) hb).trans x2
      have c3 := (hB.cell (p := ⟨b, off + k * 5 + 3, none⟩) hb).trans x3
      have c4 := (hB.cell (p := ⟨b, off + k * 5 + 4, none⟩) hb).trans x4
      have EOB : Hid (objB os k = (fok ((ms.getD k moD).slots.length : Int) (ms.getD k moD).fmt (ms.getD k moD).cls (ms.getD k moD).hash false false && refsB os (ms.getD k moD).slots)) := by
        show _ = _
        unfold objB slOk
        rw [HOB.out]
        rfl
      have HX : Hid (objB os k = false → RV = false) := fun e => by
        rw [← HRV.out]
        exact rangeAll_not (i := k) (by rw [HLEN.out]; exact hlt) e
      have HY : Hid (objB os k = true → ∀ q, q < k + 1 → objB os q = true) := fun e q hq => by
        by_cases e' : q = k
        · rw [e']; exact e
        · exact HA.out q (by omega)
      have B2 : Below w.heap.size w (wr.alloc (ob (ms.getD k moD))) := hB.alloc szr _
      have HH := headOf_any (ms.getD k moD) hsv (wr.alloc (ob (ms.getD k moD)))
      have T : Five (wr.alloc (ob (ms.getD k moD))) wr.heap.size 51 (.int .i64 (ms.getD k moD).id) (.int .i64 (ms.getD k moD).cls) (.int .i64 (ms.getD k moD).fmt) (.int .i64 (ms.getD k moD).hash) (ms.getD k moD).sv := five_new wr _ _ _ _ _ _
      have HT : Hid _ := T
      have HB2 : Hid _ := B2
      have sz2 := B2.size
      clear hcc HC hB x0 x1 x2 x3 x4 HLEN HOB HA HB HRV HROW HREF HSZ HSL T B2
      generalize ms.getD k moD = x at *
      obtain ⟨xi, xc, xf, xh, xv, xs⟩ := x
      simp only at hsv EOB
      subst hsv
      simp only [ov] at HH
      go_wp2_with fail
      generalize (wr.alloc (ob ⟨xi, xc, xf, xh, .slice sa xs.length sc, xs⟩)) = X at *
      refine HH.mono ?_
      rintro e w1 ⟨rfl, b1⟩
      have T1 := five_below HT.out b1
      have B3 := HB2.out.trans (b1.mono sz2)
      have sz3 := B3.size
      have OH := objectHeadOk_any (xs.length : Int) xf xc xh false false w1
      have HT1 : Hid _ := T1
      have HB3 : Hid _ := B3
      clear HH HT HB2 b1 T1 B3
      generalize fok (xs.length : Int) xf xc xh false false = fo at *
      go_wp2_with fail
      refine OH.mono ?_
      rintro e w2 ⟨rfl, b2⟩
      have T2 := five_below HT1.out b2
      have B4 := HB3.out.trans (b2.mono sz3)
      have sz4 := B4.size
      have RO := HRO.out w2 B4
      obtain ⟨_, _, _, _, z4, _⟩ := five_cells T2
      have HB4 : Hid _ := B4
      clear OH HT1 HB3 b2 T2 B4 HRO
      cases fo
      · have ER : Hid _ := HX.out (by rw [EOB.out]; rfl)
        clear HX HY EOB RO
        go_wp2
        go_ret
        exact ⟨by rw [ER.out]; rfl, HB4⟩
      · simp only [Bool.true_and] at EOB
        cases d : refsB os xs
        · have ER : Hid _ := HX.out (by rw [EOB.out]; exact d)
          rw [d] at RO
          clear HX HY EOB d
          go_wp2_with (go_at_call 94; refine RO.mono ?_; rintro e w3 ⟨rfl, b3⟩; have HB5 : Hid _ := HB4.out.trans (b3.mono sz4); clear b3 RO)
          go_ret
          exact ⟨by rw [ER.out]; rfl, HB5⟩
        · have HY2 : Hid _ := HY.out (by rw [EOB.out]; exact d)
          rw [d] at RO
          clear HX HY EOB d
          go_wp2_with (go_at_call 94; refine RO.mono ?_; rintro e w3 ⟨rfl, b3⟩; have HB5 : Hid _ := HB4.out.trans (b3.mono sz4); clear b3 RO)
          exact ⟨⟨k + 1, by omega, by go_num, HY2, HB5⟩, by simp [intOf]; omega⟩
    · have e : k = ms.length := by omega
      subst e
      have ER : Hid (RV = true) := by show _ = _; rw [← HRV.out]; exact rangeAll_yes (fun i hi => HA.out i (by rw [HLEN.out] at hi; exact hi))
      clear HA HC hB HRV HLEN HOB HROW HREF HSZ HSL
      go_wp2
      go_ret
      exact ⟨by rw [ER.out]; rfl, HB⟩

set_option maxHeartbeats 2000000 in
theorem rootsOk_any {w : World} {o r m : Value} {ms : List MO} {G : Gr} (h : GraphAt w o r m ms G) (hs : gSize ms G ≤ 1048576) (hr : Rise G.objs) :
    Calls Try.prog 68 #[gv o r m G.next G.seed] w fun e w' => e = .returned (.bool (rootsB G)) ∧ Below w.heap.size w w' := by
  have hsz : ms.length ≤ 1048576 ∧ G.roots.length ≤ 1048576 ∧ G.mourned.length ≤ 1048576 := by unfold gSize at hs; omega
  obtain ⟨ea, hO, hR, hM⟩ := h
  have hsl := objs_slices hO
  have HLA : Hid (∀ W, Below w.heap.size w W → _) := fun W hW => leadsAll_any (refsAt_below hM hW) hsz.2.2
  have HRR : Hid (∀ W, Below w.heap.size w W → _) := fun W hW => refsOk_any (refsAt_below hR hW) (orowAt_below hO.1 hW) hsl ea hr hsz.1 hsz.2.1
  have HRM : Hid (∀ W, Below w.heap.size w W → _) := fun W hW => refsOk_any (refsAt_below hM hW) (orowAt_below hO.1 hW) hsl ea hr hsz.1 hsz.2.2
  have hrl : ∃ a c, r = .slice a G.roots.length c := by obtain ⟨a, c, e, _⟩ := hR; exact ⟨a, c, e⟩
  have hml : ∃ a c, m = .slice a G.mourned.length c := by obtain ⟨a, c, e, _⟩ := hM; exact ⟨a, c, e⟩
  have hol : ∃ a n c, o = .slice a n c := by obtain ⟨⟨a, c, e, _⟩, _⟩ := hO; exact ⟨a, _, c, e⟩
  obtain ⟨a1, n1, c1, rfl⟩ := hol
  obtain ⟨a2, c2, rfl⟩ := hrl
  obtain ⟨a3, c3, rfl⟩ := hml
  have B : Below w.heap.size w (w.alloc (gb (.slice a1 n1 c1) (.slice a2 G.roots.length c2) (.slice a3 G.mourned.length c3) G.next G.seed)) := (Below.refl _ w).alloc (Nat.le_refl _) _
  have T := five_new w 32 (.slice a1 n1 c1) (.slice a2 G.roots.length c2) (.slice a3 G.mourned.length c3) (.int .i64 G.next) (.int .i64 G.seed)
  obtain ⟨RV, hRV⟩ : ∃ RV, rootsB G = RV := ⟨_, rfl⟩
  rw [hRV]
  have HRV : Hid _ := hRV
  have HB : Hid _ := B
  have HT : Hid _ := T
  clear hRV B T hO hR hM hsl ea
  generalize G.next = gn at *
  generalize G.seed = gs at *
  unfold rootsB at HRV
  generalize hlr : G.roots.length = lr at *
  generalize hlm : G.mourned.length = lm at *
  clear hlr hlm
  go_enter Try.func68, Try.ntmps68
  by_cases e6 : lr = 6
  · subst e6
    by_cases e40 : lm ≤ 40
    · have eRV : Hid (RV = (leadB G.mourned && (refsB G.objs G.roots && refsB G.objs G.mourned))) := by show _ = _; rw [← HRV.out]; simp [e40]
      have n40 : ¬ (lm : Int) > 40 := by omega
      clear HRV
      go_wp2_with fail
      have LA := HLA.out _ HB.out
      have T0 := HT.out
      generalize (w.alloc (gb (.slice a1 n1 c1) (.slice a2 6 c2) (.slice a3 lm c3) gn gs)) = X at *
      refine LA.mono ?_
      rintro e w1 ⟨rfl, b1⟩
      have T1 := five_below T0 b1
      have B1 := HB.out.trans (b1.mono HB.out.size)
      have RR := HRR.out _ B1
      obtain ⟨z0, z1, z2, _, _, _⟩ := five_cells T1
      have sz1 := B1.size
      have HB1 : Hid _ := B1
      have HT1 : Hid _ := T1
      clear LA HLA HRR HT HB T0 T1 b1 B1
      cases d1 : leadB G.mourned
      · have ER : Hid (RV = false) := by show _ = _; rw [eRV.out, d1]; rfl
        clear eRV RR HRM
        go_wp2
        go_ret
        exact ⟨by rw [ER.out]; rfl, HB1⟩
      · go_wp2_with fail
        refine RR.mono ?_
        rintro e w2 ⟨rfl, b2⟩
        have T2 := five_below HT1.out b2
        have B2 := HB1.out.trans (b2.mono sz1)
        have RM := HRM.out _ B2
        have HB2 : Hid _ := B2
        have sz2 := B2.size
        clear z0 z1 z2
        obtain ⟨z0, z1, z2, _, _, _⟩ := five_cells T2
        clear RR HRM HT1 T2 b2 B2 HB1
        cases d2 : refsB G.objs G.roots
        · have ER : Hid (RV = false) := by show _ = _; rw [eRV.out, d1, d2]; rfl
          clear eRV RM
          go_wp2
          go_ret
          exact ⟨by rw [ER.out]; rfl, HB2⟩
        · have ER : Hid (RV = refsB G.objs G.mourned) := by show _ = _; rw [eRV.out, d1, d2]; rfl
          clear eRV
          generalize refsB G.objs G.mourned = bm at *
          go_wp2_with fail
          refine RM.mono ?_
          rintro e w3 ⟨rfl, b3⟩
          have HB3 : Hid _ := HB2.out.trans (b3.mono sz2)
          clear RM HB2 b3
          go_wp2
          go_ret
          exact ⟨by rw [ER.out]; rfl, HB3⟩
    · have ER : Hid (RV = false) := by show _ = _; rw [← HRV.out]; simp [e40]
      have n40 : (lm : Int) > 40 := by omega
      clear HRV HLA HRR HRM HT
      go_wp2
      go_ret
      exact ⟨by rw [ER.out]; rfl, HB⟩
  · have ER : Hid (RV = false) := by show _ = _; rw [← HRV.out]; simp [e6]
    have n6 : ((lr : Int) != 6) = true := by simp; omega
    clear HRV HLA HRR HRM HT
    go_wp2
    go_ret
    exact ⟨by rw [ER.out]; rfl, HB⟩
end Go.Proofs.Ytfajnnibkcnkaal.gr
namespace Go.Proofs.Ytfajnnibkcnkaal.gr
open Go.RowKit rows heads
set_option maxRecDepth 100000

set_option maxHeartbeats 4000000 in
theorem implGraphOk {w : World} {o r m : Value} {ms : List MO} {G : Gr} (h : GraphAt w o r m ms G) (hs : gSize ms G ≤ 1048576) :
    Calls Try.prog 33 #[gv o r m G.next G.seed] w fun e w' => e = .returned (.bool (gOk G)) ∧ Below w.heap.size w w' := by
  rw [← pG_gOk]
  have hsz : ms.length ≤ 1048576 := by unfold gSize at hs; omega
  have hss := gSize_slots hs
  have h0 := h
  obtain ⟨ea, hO, hR, hM⟩ := h
  have hsl := objs_slices hO
  have hlen : ms.length = G.objs.length := by rw [← ea]; simp
  have HID : Hid (∀ W, Below w.heap.size w W → ∀ nx, _) := fun W hW nx => idsOk_any (orowAt_below hO.1 hW) hsl ea hsz nx
  have HOB : Hid (Rise G.objs → ∀ W, Below w.heap.size w W → _) := fun hr W hW => objsOk_any (objsAt_below hO hW) ea hr hsz hss
  have HRO : Hid (Rise G.objs → ∀ W, Below w.heap.size w W → _) := fun hr W hW => rootsOk_any (graphAt_below h0 hW) hs hr
  have HRI : Hid (∀ nx, idsB G.objs nx = true → Rise G.objs) := fun nx e => rise_of e
  have hol : ∃ a c, o = .slice a G.objs.length c := by obtain ⟨⟨a, c, e, _⟩, _⟩ := hO; rw [hlen] at e; exact ⟨a, c, e⟩
  obtain ⟨a2, n2, c2, e2⟩ := refs_slice hR
  obtain ⟨a3, n3, c3, e3⟩ := refs_slice hM
  obtain ⟨a1, c1, rfl⟩ := hol
  subst e2 e3
  have B : Below w.heap.size w (w.alloc (gb (.slice a1 G.objs.length c1) (.slice a2 n2 c2) (.slice a3 n3 c3) G.next G.seed)) := (Below.refl _ w).alloc (Nat.le_refl _) _
  have T := five_new w 32 (.slice a1 G.objs.length c1) (.slice a2 n2 c2) (.slice a3 n3 c3) (.int .i64 G.next) (.int .i64 G.seed)
  obtain ⟨RV, hRV⟩ : ∃ RV, pG G = RV := ⟨_, rfl⟩
  rw [hRV]
  have HRV : Hid _ := hRV
  have HB : Hid _ := B
  have HT : Hid _ := T
  clear hRV B T hO hR hM hsl ea hlen h0 hss hsz hs
  unfold pG at HRV
  generalize hgn : G.next = gn at *
  generalize hgs : G.seed = gs at *
  have hl63 : c1 ≤ 9223372036854775807 ∨ True := .inr trivial
  clear hgn hgs hl63
  generalize hol : G.objs.length = lo at *
  clear hol
  go_enter Try.func33, Try.ntmps33
  by_cases e1 : gn < 1
  · have ER : Hid (RV = false) := by show _ = _; rw [← HRV.out]; simp [inR]; omega
    clear HRV HID HOB HRO HRI HT
    go_wp2
    go_ret
    exact ⟨by rw [ER.out]; rfl, HB⟩
  by_cases e2 : gn > 100000
  · have ER : Hid (RV = false) := by show _ = _; rw [← HRV.out]; simp [inR]; omega
    clear HRV HID HOB HRO HRI HT
    go_wp2
    go_ret
    exact ⟨by rw [ER.out]; rfl, HB⟩
  have i1 : inR 1 100000 gn = true := by simp [inR]; omega
  rw [i1] at HRV
  have HI := hashInRange_any gs
  cases e3 : inR 0 65535 gs
  · have ER : Hid (RV = false) := by show _ = _; rw [← HRV.out, e3]; rfl
    rw [e3] at HI
    clear HRV HID HOB HRO HRI HT
    go_wp2_with (go_at_call 65; refine (HI _).mono ?_; rintro e w1 ⟨rfl, rfl⟩)
    go_ret
    exact ⟨by rw [ER.out]; rfl, HB⟩
  rw [e3] at HI HRV
  by_cases e4 : lo ≤ 200
  · have n4 : ¬ (lo : Int) > 200 := by omega
    have eRV : Hid (RV = (idsB G.objs gn && (objsB G.objs && rootsB G))) := by show _ = _; rw [← HRV.out]; simp [e4]
    clear HRV
    go_wp2_with (go_at_call 65; refine (HI _).mono ?_; rintro e w1 ⟨rfl, rfl⟩)
    have ID := HID.out _ HB.out gn
    have T0 := HT.out
    clear HI
    generalize (w.alloc (gb (.slice a1 lo c1) (.slice a2 n2 c2) (.slice a3 n3 c3) gn gs)) = X at *
    refine ID.mono ?_
    rintro e w1 ⟨rfl, b1⟩
    have T1 := five_below T0 b1
    have B1 := HB.out.trans (b1.mono HB.out.size)
    obtain ⟨z0, z1, z2, z3, z4, _⟩ := five_cells T1
    have sz1 := B1.size
    have HB1 : Hid _ := B1
    have HT1 : Hid _ := T1
    clear ID HID HT HB T0 T1 b1 B1
    cases d1 : idsB G.objs gn
    · have ER : Hid (RV = false) := by show _ = _; rw [eRV.out, d1]; rfl
      clear eRV HOB HRO HRI HT1
      go_wp2
      go_ret
      exact ⟨by rw [ER.out]; rfl, HB1⟩
    · have hr := HRI.out gn d1
      have OB := HOB.out hr _ HB1.out
      go_wp2_with fail
      refine OB.mono ?_
      rintro e w2 ⟨rfl, b2⟩
      have T2 := five_below HT1.out b2
      have B2 := HB1.out.trans (b2.mono sz1)
      have RO := HRO.out hr _ B2
      clear z0 z1 z2 z3 z4
      obtain ⟨z0, z1, z2, z3, z4, _⟩ := five_cells T2
      have HB2 : Hid _ := B2
      have sz2 := B2.size
      clear OB HOB HRO HT1 T2 b2 B2 HB1 hr HRI
      cases d2 : objsB G.objs
      · have ER : Hid (RV = false) := by show _ = _; rw [eRV.out, d1, d2]; rfl
        clear eRV RO
        go_wp2
        go_ret
        exact ⟨by rw [ER.out]; rfl, HB2⟩
      · have ER : Hid (RV = rootsB G) := by show _ = _; rw [eRV.out, d1, d2]; rfl
        clear eRV
        generalize rootsB G = bm at *
        go_wp2_with fail
        refine RO.mono ?_
        rintro e w3 ⟨rfl, b3⟩
        have HB3 : Hid _ := HB2.out.trans (b3.mono sz2)
        clear RO HB2 b3
        go_wp2
        go_ret
        exact ⟨by rw [ER.out]; rfl, HB3⟩
  · have n4 : (lo : Int) > 200 := by omega
    have ER : Hid (RV = false) := by show _ = _; rw [← HRV.out]; simp [e4]
    clear HRV HID HOB HRO HRI HT
    go_wp2_with (go_at_call 65; refine (HI _).mono ?_; rintro e w1 ⟨rfl, rfl⟩)
    go_ret
    exact ⟨by rw [ER.out]; rfl, HB⟩
end Go.Proofs.Ytfajnnibkcnkaal.gr
namespace Go.Proofs.Ytfajnnibkcnkaal.gr
open Go.RowKit rows heads
set_option maxRecDepth 100000

theorem heap_push {w : World} {o x : Obj} {k : Nat} (h : w.heap[k]? = some x) : (w.alloc o).heap[k]? = some x := (Below.heap_alloc w o k (Array.getElem?_eq_some_iff.1 h).1).trans h
theorem res_gr2 {fn : Func} {tmps : Array Value} {X : World} {j i b : Nat} {a1 a2 a3 : Option Addr} {n1 c1 n2 c2 n3 c3 : Nat} {x y : Int} {bb : Bool} (hf : fn.results = #[.cell j 32, .tmp i]) (h2 : tmps[j]? = some (.pointer (some ⟨b, 0, none⟩))) (hi : tmps[i]? = some (.bool bb)) (hX : Five X b 32 (.slice a1 n1 c1) (.slice a2 n2 c2) (.slice a3 n3 c3) (.int .i64 x) (.int .i64 y)) :
    (results fn tmps).run Try.prog X = .ok (.tuple #[gv (.slice a1 n1 c1) (.slice a2 n2 c2) (.slice a3 n3 c3) x y, .bool bb]) X := by
  obtain ⟨k0, k1, k2, k3, k4, _⟩ := five_cells hX
  clear hX
  simp [results, hf, h2, hi, go_sem, k0, k1, k2, k3, k4]

set_option maxHeartbeats 8000000 in
theorem edited_any {w : World} {o r m : Value} {ms : List MO} {G : Gr} (h : GraphAt w o r m ms G) (hs : gSize ms G ≤ 1048576) (F : Nat) (cap : Array Value) (eg : ∀ args w, (callFunc F args).run Try.prog w = .ok (.enter F args) w) {R : Gr} {b : Bool}
    (HC : Hid (gOk G = true → ∀ (base P : Nat) (W : World), w.heap.size ≤ base → Below w.heap.size w W → Held W base P G → Calls Try.prog F (#[.pointer (some ⟨P, 0, none⟩)] ++ cap) W fun e w' => e = .returned (.bool b) ∧ Held w' base P R ∧ Below base W w')) :
    Calls Try.prog 43 #[gv o r m G.next G.seed, .func (.func F) #[] cap] w fun e w' => ∃ o' r' m' rs, e = .returned (.tuple #[gv o' r' m' (if gOk G = true then R else gr0).next (if gOk G = true then R else gr0).seed, .bool (gOk G && b)]) ∧ OwnG w' w.heap.size o' r' m' rs (if gOk G = true then R else gr0) ∧ Below w.heap.size w w' := by
  obtain ⟨a1, n1, c1, a2, n2, c2, a3, n3, c3, e1, e2, e3⟩ := graphAt_slices h
  subst e1 e2 e3
  generalize hn0 : w.heap.size = n0 at *
  have B0 : Below n0 w ((w.alloc (gb (.slice a1 n1 c1) (.slice a2 n2 c2) (.slice a3 n3 c3) G.next G.seed)).alloc (gb (.slice none 0 0) (.slice none 0 0) (.slice none 0 0) 0 0)) := ((Below.refl _ w).alloc (by omega) _).alloc (by simp; omega) _
  have TP : Five ((w.alloc (gb (.slice a1 n1 c1) (.slice a2 n2 c2) (.slice a3 n3 c3) G.next G.seed)).alloc (gb (.slice none 0 0) (.slice none 0 0) (.slice none 0 0) 0 0)) n0 32 (.slice a1 n1 c1) (.slice a2 n2 c2) (.slice a3 n3 c3) (.int .i64 G.next) (.int .i64 G.seed) := by
    rw [← hn0]
    exact five_below (five_new w _ _ _ _ _ _) ((Below.refl _ _).alloc (Nat.le_refl _) _)
  have TR : Five ((w.alloc (gb (.slice a1 n1 c1) (.slice a2 n2 c2) (.slice a3 n3 c3) G.next G.seed)).alloc (gb (.slice none 0 0) (.slice none 0 0) (.slice none 0 0) 0 0)) (n0 + 1) 32 (.slice none 0 0) (.slice none 0 0) (.slice none 0 0) (.int .i64 0) (.int .i64 0) := by
    have := five_new (w.alloc (gb (.slice a1 n1 c1) (.slice a2 n2 c2) (.slice a3 n3 c3) G.next G.seed)) 32 (.slice none 0 0) (.slice none 0 0) (.slice none 0 0) (.int .i64 0) (.int .i64 0)
    rw [← hn0]
    simpa using this
  have hX : n0 + 2 ≤ ((w.alloc (gb (.slice a1 n1 c1) (.slice a2 n2 c2) (.slice a3 n3 c3) G.next G.seed)).alloc (gb (.slice none 0 0) (.slice none 0 0) (.slice none 0 0) 0 0)).heap.size := by simp; omega
  have HG : Hid (∀ {X : World}, Below n0 w X → GraphAt X (.slice a1 n1 c1) (.slice a2 n2 c2) (.slice a3 n3 c3) ms G) := fun {X} hb => graphAt_below h (by rw [hn0]; exact hb)
  have GO := implGraphOk (HG.out B0) hs
  obtain ⟨RG, hRG⟩ : ∃ RG, (if gOk G = true then R else gr0) = RG := ⟨_, rfl⟩
  obtain ⟨RB, hRB⟩ : ∃ RB, (gOk G && b) = RB := ⟨_, rfl⟩
  rw [hRG, hRB]
  have HRG : Hid _ := hRG
  have HRB : Hid _ := hRB
  clear hRG hRB h
  go_enter Try.func43, Try.ntmps43
  go_wp2_with fail
  generalize ((w.alloc (gb (.slice a1 n1 c1) (.slice a2 n2 c2) (.slice a3 n3 c3) G.next G.seed)).alloc (gb (.slice none 0 0) (.slice none 0 0) (.slice none 0 0) 0 0)) = X at *
  refine GO.mono ?_
  rintro e w1 ⟨rfl, b1⟩
  have B1 := B0.trans (b1.mono (by omega))
  have TP1 := five_below TP b1
  have TR1 := five_below TR b1
  have s1 : n0 + 2 ≤ w1.heap.size := Nat.le_trans hX b1.size
  clear GO TP TR B0 b1 hX
  obtain ⟨v0, v1, v2, v3, v4, vf⟩ := five_cells TR1
  have g0 := vf 0
  have g1 := vf 1
  have g2 := vf 2
  have g3 := vf 3
  have g4 := vf 4
  cases ok : gOk G
  · have ERG : RG = gr0 := by rw [← HRG.out, ok]; rfl
    have ERB : Hid (RB = false) := by show _ = _; rw [← HRB.out, ok]; rfl
    subst ERG
    have HTX : Hid _ := five_sets TR1 (.slice none 0 0) (.slice none 0 0) (.slice none 0 0) (.int .i64 0) (.int .i64 0)
    have HBX : Hid _ := five_belows B1 (show n0 ≤ n0 + 1 by omega) (.slice none 0 0) (.slice none 0 0) (.slice none 0 0) (.int .i64 0) (.int .i64 0)
    clear HRG HRB HC HG TP1 TR1 B1 vf
    go_wp2
    exact bodyPost_ret (res_gr2 rfl rfl rfl HTX.out) rfl ⟨_, _, _, [], by rw [ERB.out]; rfl, ownG_zero _ _, HBX.out⟩
  · have ERG : Hid (RG = R) := by show _ = _; rw [← HRG.out, ok]; rfl
    have ERB : Hid (RB = b) := by show _ = _; rw [← HRB.out, ok]; rfl
    have CG := copiedGraph_any (HG.out B1) hs
    obtain ⟨z0, z1, z2, z3, z4, _⟩ := five_cells TP1
    have HC1 : Hid _ := HC.out ok
    have HTR1 : Hid _ := TR1
    have HB1 : Hid _ := B1
    clear HRG HRB HC HG TP1 TR1 B1 vf
    go_wp2_with fail
    refine CG.mono ?_
    rintro e w2 ⟨o', r', m', ns, rfl, OG, b2⟩
    obtain ⟨a1', n1', c1', a2', n2', c2', a3', n3', c3', e1, e2, e3⟩ := graphAt_slices (ownG_at OG)
    subst e1 e2 e3
    clear CG z0 z1 z2 z3 z4 v0 v1 v2 v3 v4 g0 g1 g2 g3 g4
    have s2 := b2.size
    have BA : Below w2.heap.size w2 (w2.alloc (gb (.slice a1' n1' c1') (.slice a2' n2' c2') (.slice a3' n3' c3') G.next G.seed)) := (Below.refl _ w2).alloc (Nat.le_refl _) _
    have HH : Held (w2.alloc (gb (.slice a1' n1' c1') (.slice a2' n2' c2') (.slice a3' n3' c3') G.next G.seed)) w1.heap.size w2.heap.size G :=
      ⟨_, _, _, ns, five_new w2 _ _ _ _ _ _, ownG_below OG BA, fun e => by have := (ownG_lt OG _ e).2; omega, s2⟩
    have B2 := (HB1.out.trans (b2.mono (by omega))).trans (BA.mono (by omega))
    have CL := HC1.out w1.heap.size w2.heap.size _ (by omega) B2 HH
    have HTR2 : Hid _ := five_below (five_below HTR1.out b2) BA
    have HB2 : Hid _ := B2
    have s3 : w1.heap.size ≤ (w2.alloc (gb (.slice a1' n1' c1') (.slice a2' n2' c2') (.slice a3' n3' c3') G.next G.seed)).heap.size := by simp; omega
    clear OG b2 BA HH B2 HC1 HTR1 HB1
    go_wp2_with (go_at_fn F; refine CL.mono ?_; rintro e w4 ⟨rfl, ⟨o4, r4, m4, rs, T4, O4, N4, _⟩, b4⟩; have HT4 : Hid _ := T4; have HO4 : Hid _ := O4; have HB4 : Hid _ := b4; clear T4 O4 b4 N4 CL; refine Hid.out ?_)
    have O4 := HO4.out
    have T4 := HT4.out
    have B4 := HB2.out.trans (HB4.out.mono (by omega))
    have TR4 : Five w4 (n0 + 1) 32 (.slice none 0 0) (.slice none 0 0) (.slice none 0 0) (.int .i64 0) (.int .i64 0) := (HB4.out.block (n0 + 1) (by omega)).trans HTR2.out
    obtain ⟨a1, n1, c1, a2, n2, c2, a3, n3, c3, e1, e2, e3⟩ := graphAt_slices (ownG_at O4)
    subst e1 e2 e3
    obtain ⟨z0, z1, z2, z3, z4, _⟩ := five_cells T4
    obtain ⟨v0, v1, v2, v3, v4, vf⟩ := five_cells TR4
    have g0 := vf 0
    have g1 := vf 1
    have g2 := vf 2
    have g3 := vf 3
    have g4 := vf 4
    have HOW : Hid _ := ownG_base (ownG_ch O4 (five_other (X := w4) (b := n0 + 1) (.slice a1 n1 c1) (.slice a2 n2 c2) (.slice a3 n3 c3) (.int .i64 R.next) (.int .i64 R.seed)) (fun x hx e => by have := (ownG_lt O4 x hx).1; rw [List.mem_singleton] at e; omega)) (show n0 ≤ w1.heap.size by omega)
    have HTX : Hid _ := five_sets TR4 (.slice a1 n1 c1) (.slice a2 n2 c2) (.slice a3 n3 c3) (.int .i64 R.next) (.int .i64 R.seed)
    have HBX : Hid _ := five_belows B4 (show n0 ≤ n0 + 1 by omega) (.slice a1 n1 c1) (.slice a2 n2 c2) (.slice a3 n3 c3) (.int .i64 R.next) (.int .i64 R.seed)
    clear vf O4 T4 B4 TR4 HO4 HT4 HB4 HB2 HTR2
    refine Go.Lib.hid ?_
    go_wp2
    exact bodyPost_ret (res_gr2 rfl rfl rfl HTX.out) rfl ⟨_, _, _, rs, by rw [ERB.out, ERG.out], by rw [ERG.out]; exact HOW.out, HBX.out⟩
end Go.Proofs.Ytfajnnibkcnkaal.gr
namespace Go.Proofs.Ytfajnnibkcnkaal.gr
open Go.RowKit rows heads
set_option maxRecDepth 100000
set_option linter.unusedVariables false

/-- Does a ref lead to an object that is there? -/
def ledB (os : List Ob) (r : Rf) : Bool := r.1 == 2 && decide (0 ≤ atI os r.2)
/-- The place to which it leads. -/
def ledP (os : List Ob) (r : Rf) : Nat := (atI os r.2).toNat
theorem ledP_lt {os : List Ob} {r : Rf} (h : ledB os r = true) : ledP os r < os.length := by
  simp only [ledB, Bool.and_eq_true, decide_eq_true_eq] at h
  unfold ledP
  rcases atI_le os r.2 with e | e <;> omega
set_option maxHeartbeats 2000000 in
theorem ledTo_any {w : World} {v : Value} {ms : List MO} {os : List Ob} (h : OrowAt w v ms) (hsl : Slices ms) (ea : ms.map MO.abs = os) (hr : Rise os) (hl : ms.length ≤ 1048576) (r : Rf) :
    Calls Try.prog 70 #[v, rv r] w fun e w' => ∃ k : Nat, e = .returned (.tuple #[.int .i64 k, .bool (ledB os r)]) ∧ (ledB os r = true → k = ledP os r) ∧ Below w.heap.size w w' := by
  have HP : Hid (∀ W, Below w.heap.size w W → ∀ id, _) := fun W hW id => placeOf_any (orowAt_below h hW) hsl (riseM ea hr) hl id
  have hlen : ms.length = os.length := by rw [← ea]; simp
  have HI : Hid (∀ id i, EndsM ms id i → (decide (i < ms.length) && decide ((ms.getD i moD).id = id)) = decide (0 ≤ atI os id) ∧ (0 ≤ atI os id → i = (atI os id).toNat)) := fun id i hE => by
    have := ends_is hr (endsM ea hE)
    refine ⟨by rw [← this, ← hlen, ← ea, abs_getD]; rfl, fun hp => ?_⟩
    have := (ends_place hr (endsM ea hE) hp).1
    omega
  obtain ⟨a, cap, rfl, hlc, hcm, _, hc⟩ := h
  clear hc hlen
  obtain ⟨k, n⟩ := r
  have B : Below w.heap.size w (w.alloc (rb (k, n))) := (Below.refl _ w).alloc (Nat.le_refl _) _
  have L := leadsTo_any (k, n) (w.alloc (rb (k, n)))
  have HB : Hid _ := B
  have szB := B.size
  clear B
  simp only at L
  by_cases h2 : k = 2
  · subst h2
    simp only [if_true] at L
    have e22 : ((2 : Int) == 2) = true := rfl
    rw [e22] at L
    obtain ⟨bb, hbb⟩ : ∃ bb, ledB os (2, n) = bb := ⟨_, rfl⟩
    obtain ⟨pp, hpp⟩ : ∃ pp, ledP os (2, n) = pp := ⟨_, rfl⟩
    have HL : Hid (decide (0 ≤ atI os n) = bb) := by show _ = _; rw [← hbb]; simp [ledB]
    have HLP : Hid ((atI os n).toNat = pp) := hpp
    rw [hbb, hpp]
    clear e22 hbb hpp
    go_enter Try.func70, Try.ntmps70
    go_wp2_with fail
    refine L.mono ?_
    rintro e w1 ⟨rfl, b1⟩
    have B1 := HB.out.trans (b1.mono szB)
    have PO := HP.out w1 B1 n
    have sz1 := B1.size
    have HB1 : Hid _ := B1
    clear L HP b1 HB B1
    go_wp2_with fail
    refine PO.mono ?_
    rintro e w2 ⟨i, hE, rfl, b2⟩
    obtain ⟨hI, hJ⟩ := HI.out n i hE
    have HQ : Hid (bb = true → i = pp) := fun e => by rw [← HLP.out]; exact hJ (by rw [← HL.out] at e; simpa using e)
    have hI' := hI.trans HL.out
    rw [hI']
    have HB2 : Hid _ := HB1.out.trans (b2.mono sz1)
    clear PO HI hI hI' hJ hE b2 HL HLP
    go_wp2
    exact bodyPost_ret (v := .tuple #[.int .i64 i, .bool bb]) (by simp [results, Try.results70, go_sem]) rfl ⟨i, rfl, HQ.out, HB2⟩
  · have e2 : (k == 2) = false := by simpa using h2
    have HL : Hid (ledB os (k, n) = false) := by show _ = _; simp [ledB, e2]
    rw [if_neg h2, e2] at L
    clear HP HI e2
    go_enter Try.func70, Try.ntmps70
    go_wp2_with (go_at_call 96; refine L.mono ?_; rintro e w1 ⟨rfl, b1⟩; have HB1 : Hid _ := HB.out.trans (b1.mono szB); clear b1 L HB)
    refine bodyPost_ret (v := .tuple #[.int .i64 0, .bool false]) (by simp [results, Try.results70, go_sem]) rfl ⟨0, by rw [HL.out]; rfl, fun e => ?_, HB1⟩
    rw [HL.out] at e
    cases e
end Go.Proofs.Ytfajnnibkcnkaal.gr
