/-
  Chapter 6 as the program has it: GraphOk. Chapter 6 as the program has it: the object to which a root leads, and GHash. Chapter 6: a root copied onto another, in the graph that a pointer leads to; by the specification and by the program. Chapter 6 as the program has it: a slot of the object to which a root leads. Chapter 6: no answer is greater than the laws go.
-/
import Derived.Test.YtfajnnibkcnkaalM6
import Derived.Deep.RegionLaw
import Derived.Lib.Hide
namespace Go.Proofs.Ytfajnnibkcnkaal.gr
open Go.RowKit rows heads
set_option maxRecDepth 100000

set_option maxHeartbeats 4000000 in
theorem implGraphOk {w : World} {o r m : Value} {ms : List MO} {G : Gr} (h : GraphAt w o r m ms G) (hs : gSize ms G ≤ 1048576) :
    Calls Try.prog 33 #[gv o r m G.next G.seed] w fun e w' => e = .returned (.bool (gOk G)) ∧ Below w.heap.size w w' := by
  rw [← pG_gOk]
  have hsz : ms.length ≤ 1048576 := by unfold gSize at hs; omega
  have hss := gSize_slots hs
  have h0 := h
  obtain ⟨ea, hO, hR, hM⟩ := h
  have hsl := objs_slices hO
  have hlen : ms.length = G.objs.length := by rw [← ea]; simp
  have HID : Hid (∀ W, Below w.heap.size w W → ∀ nx, _) := fun W hW nx => idsOk_any (orowAt_below hO.1 hW) hsl ea hsz nx
  have HOB : Hid (Rise G.objs → ∀ W, Below w.heap.size w W → _) := fun hr W hW => objsOk_any (objsAt_below hO hW) ea hr hsz hss
  have HRO : Hid (Rise G.objs → ∀ W, Below w.heap.size w W → _) := fun hr W hW => rootsOk_any (graphAt_below h0 hW) hs hr
  have HRI : Hid (∀ nx, idsB G.objs nx = true → Rise G.objs) := fun nx e => rise_of e
  have hol : ∃ a c, o = .slice a G.objs.length c := by obtain ⟨⟨a, c, e, _⟩, _⟩ := hO; rw [hlen] at e; exact ⟨a, c, e⟩
  obtain ⟨a2, n2, c2, e2⟩ := refs_slice hR
  obtain ⟨a3, n3, c3, e3⟩ := refs_slice hM
  obtain ⟨a1, c1, rfl⟩ := hol
  subst e2 e3
  have B : Below w.heap.size w (w.alloc (gb (.slice a1 G.objs.length c1) (.slice a2 n2 c2) (.slice a3 n3 c3) G.next G.seed)) := (Below.refl _ w).alloc (Nat.le_refl _) _
  have T := five_new w 32 (.slice a1 G.objs.length c1) (.slice a2 n2 c2) (.slice a3 n3 c3) (.int .i64 G.next) (.int .i64 G.seed)
  obtain ⟨RV, hRV⟩ : ∃ RV, pG G = RV := ⟨_, rfl⟩
  rw [hRV]
  have HRV : Hid _ := hRV
  have HB : Hid _ := B
  have HT : Hid _ := T
  clear hRV B T hO hR hM hsl ea hlen h0 hss hsz hs
  unfold pG at HRV
  generalize hgn : G.next = gn at *
  generalize hgs : G.seed = gs at *
  have hl63 : c1 ≤ 9223372036854775807 ∨ True := .inr trivial
  clear hgn hgs hl63
  generalize hol : G.objs.length = lo at *
  clear hol
  go_enter Try.func33, Try.ntmps33
  by_cases e1 : gn < 1
  · have ER : Hid (RV = false) := by show _ = _; rw [← HRV.out]; simp [inR]; omega
    clear HRV HID HOB HRO HRI HT
    go_wp2
    go_ret
    exact ⟨by rw [ER.out]; rfl, HB⟩
  by_cases e2 : gn > 100000
  · have ER : Hid (RV = false) := by show _ = _; rw [← HRV.out]; simp [inR]; omega
    clear HRV HID HOB HRO HRI HT
    go_wp2
    go_ret
    exact ⟨by rw [ER.out]; rfl, HB⟩
  have i1 : inR 1 100000 gn = true := by simp [inR]; omega
  rw [i1] at HRV
  have HI := hashInRange_any gs
  cases e3 : inR 0 65535 gs
  · have ER : Hid (RV = false) := by show _ = _; rw [← HRV.out, e3]; rfl
    rw [e3] at HI
    clear HRV HID HOB HRO HRI HT
    go_wp2_with (go_at_call 65; refine (HI _).mono ?_; rintro e w1 ⟨rfl, rfl⟩)
    go_ret
    exact ⟨by rw [ER.out]; rfl, HB⟩
  rw [e3] at HI HRV
  by_cases e4 : lo ≤ 200
  · have n4 : ¬ (lo : Int) > 200 := by omega
    have eRV : Hid (RV = (idsB G.objs gn && (objsB G.objs && rootsB G))) := by show _ = _; rw [← HRV.out]; simp [e4]
    clear HRV
    go_wp2_with (go_at_call 65; refine (HI _).mono ?_; rintro e w1 ⟨rfl, rfl⟩)
    have ID := HID.out _ HB.out gn
    have T0 := HT.out
    clear HI
    generalize (w.alloc (gb (.slice a1 lo c1) (.slice a2 n2 c2) (.slice a3 n3 c3) gn gs)) = X at *
    refine ID.mono ?_
    rintro e w1 ⟨rfl, b1⟩
    have T1 := five_below T0 b1
    have B1 := HB.out.trans (b1.mono HB.out.size)
    obtain ⟨z0, z1, z2, z3, z4, _⟩ := five_cells T1
    have sz1 := B1.size
    have HB1 : Hid _ := B1
    have HT1 : Hid _ := T1
    clear ID HID HT HB T0 T1 b1 B1
    cases d1 : idsB G.objs gn
    · have ER : Hid (RV = false) := by show _ = _; rw [eRV.out, d1]; rfl
      clear eRV HOB HRO HRI HT1
      go_wp2
      go_ret
      exact ⟨by rw [ER.out]; rfl, HB1⟩
    · have hr := HRI.out gn d1
      have OB := HOB.out hr _ HB1.out
      go_wp2_with fail
      refine OB.mono ?_
      rintro e w2 ⟨rfl, b2⟩
      have T2 := five_below HT1.out b2
      have B2 := HB1.out.trans (b2.mono sz1)
      have RO := HRO.out hr _ B2
      clear z0 z1 z2 z3 z4
      obtain ⟨z0, z1, z2, z3, z4, _⟩ := five_cells T2
      have HB2 : Hid _ := B2
      have sz2 := B2.size
      clear OB HOB HRO HT1 T2 b2 B2 HB1 hr HRI
      cases d2 : objsB G.objs
      · have ER : Hid (RV = false) := by show _ = _; rw [eRV.out, d1, d2]; rfl
        clear eRV RO
        go_wp2
        go_ret
        exact ⟨by rw [ER.out]; rfl, HB2⟩
      · have ER : Hid (RV = rootsB G) := by show _ = _; rw [eRV.out, d1, d2]; rfl
        clear eRV
        generalize rootsB G = bm at *
        go_wp2_with fail
        refine RO.mono ?_
        rintro e w3 ⟨rfl, b3⟩
        have HB3 : Hid _ := HB2.out.trans (b3.mono sz2)
        clear RO HB2 b3
        go_wp2
        go_ret
        exact ⟨by rw [ER.out]; rfl, HB3⟩
  · have n4 : (lo : Int) > 200 := by omega
    have ER : Hid (RV = false) := by show _ = _; rw [← HRV.out]; simp [e4]
    clear HRV HID HOB HRO HRI HT
    go_wp2_with (go_at_call 65; refine (HI _).mono ?_; rintro e w1 ⟨rfl, rfl⟩)
    go_ret
    exact ⟨by rw [ER.out]; rfl, HB⟩
end Go.Proofs.Ytfajnnibkcnkaal.gr
namespace Go.Proofs.Ytfajnnibkcnkaal.gr
open Go.RowKit rows heads
set_option maxRecDepth 100000

/-- Does this root lead to an object? -/
def leads (G : Gr) (x : Int) : Bool := inR 0 5 x && (rootAt G x).1 == 2
theorem leads_plc {G : Gr} (hok : gOk G = true) {x : Int} (h : leads G x = true) : atI G.objs (rootAt G x).2 = (plc G x : Int) ∧ plc G x < G.objs.length := by
  simp only [leads, Bool.and_eq_true, beq_iff_eq] at h
  have h1 : 0 ≤ x ∧ x ≤ 5 := by simpa [inR] using h.1
  have := refOk_two ((gOk_parts hok).2 x.toNat (by omega)) h.2
  unfold plc rootAt
  omega

theorem leads_led {G : Gr} (hok : gOk G = true) {x : Int} (hx : inR 0 5 x = true) : ledB G.objs (rootAt G x) = leads G x := by
  have h1 : 0 ≤ x ∧ x ≤ 5 := by simpa [inR] using hx
  have hr := (gOk_parts hok).2 x.toNat (by omega)
  unfold ledB leads
  rw [hx, Bool.true_and]
  by_cases h2 : (rootAt G x).1 = 2
  · have := (refOk_two hr h2).1
    rw [decide_eq_true this, Bool.and_true]
  · have : ((rootAt G x).1 == 2) = false := by simpa using h2
    rw [this, Bool.false_and]
end Go.Proofs.Ytfajnnibkcnkaal.gr
namespace Go.Proofs.Ytfajnnibkcnkaal.gr
open Go.RowKit rows heads
set_option maxRecDepth 100000

theorem q_in_root {o m : Value} {q n c : Nat} {ms : List MO} : q ∈ gblk o (.slice (some ⟨q, 0, none⟩) n c) m ms := by simp [gblk, blk_some]
theorem held_setRoot {w : World} {base P : Nat} {o m : Value} {q n c : Nat} {ms : List MO} {G : Gr} (T : Five w P 32 o (.slice (some ⟨q, 0, none⟩) n c) m (.int .i64 G.next) (.int .i64 G.seed)) (O : OwnG w base o (.slice (some ⟨q, 0, none⟩) n c) m ms G) (N : P ∉ gblk o (.slice (some ⟨q, 0, none⟩) n c) m ms) (hb : base ≤ P) (i : Nat) (e : Rf) :
    Held (put2 w q i e) base P { G with roots := G.roots.set i e } ∧ Below base w (put2 w q i e) := by
  have hq : base ≤ q := (ownG_lt O q q_in_root).1
  refine ⟨⟨o, _, m, ms, five_ch T (put2_ch w q i e) (fun h => N ((List.mem_singleton.1 h) ▸ q_in_root)), ownG_setRoot O i e, N, hb⟩, ?_⟩
  exact ((Below.refl _ w).setCell (p := ⟨q, i * 2, none⟩) hq _).setCell (p := ⟨q, i * 2 + 1, none⟩) hq _
theorem bel_drew' {base q i : Nat} {e : Rf} {w : World} (h : Below base w (put2 w q i e)) : Below base w (put2 w.drew q i e) := ⟨h.os, h.tape, h.output, h.size, h.block⟩
theorem held_drew {w : World} {base P : Nat} {G : Gr} (h : Held w base P G) : Held w.drew base P G := h
theorem put2_drew (w : World) (q i : Nat) (e : Rf) : put2 w.drew q i e = (put2 w q i e).drew := rfl

theorem copyRoot_no {G : Gr} {t f : Int} (h : (inR 0 5 t && inR 0 5 f) = false) : copyRoot G t f = (G, false) := by unfold copyRoot; rw [h]; rfl
theorem copyRoot_yes {G : Gr} {t f : Int} (h : (inR 0 5 t && inR 0 5 f) = true) : copyRoot G t f = ({ G with roots := G.roots.set t.toNat (rootAt G f) }, true) := by unfold copyRoot; rw [if_pos h]

/-- The cell holds this number. -/
abbrev NumAt (w : World) (b : Nat) (x : Int) : Prop := w.cell? ⟨b, 0, none⟩ = some (.int .i64 x)
end Go.Proofs.Ytfajnnibkcnkaal.gr
namespace Go.Proofs.Ytfajnnibkcnkaal.gr
open Go.RowKit rows heads
set_option maxRecDepth 100000

theorem gOk_len {G : Gr} (h : gOk G = true) : G.objs.length ≤ 200 ∧ G.roots.length = 6 ∧ G.mourned.length ≤ 40 ∧ 1 ≤ G.next ∧ G.next ≤ 100000 ∧ 0 ≤ G.seed ∧ G.seed ≤ 65535 := by
  unfold gOk at h
  simp only [Bool.and_eq_true] at h
  obtain ⟨⟨⟨h0, _⟩, _⟩, _⟩ := h
  simp only [gHead, inR, Bool.and_eq_true, decide_eq_true_eq] at h0
  omega
theorem own_len {w : World} {base : Nat} {o r m : Value} {ms : List MO} {G : Gr} (O : OwnG w base o r m ms G) : ms.length = G.objs.length := by rw [← O.1]; simp
theorem own_abs {w : World} {base : Nat} {o r m : Value} {ms : List MO} {G : Gr} (O : OwnG w base o r m ms G) (k : Nat) : (ms.getD k moD).slots = (G.objs.getD k obD).slots := by rw [← O.1, abs_getD]; rfl

end Go.Proofs.Ytfajnnibkcnkaal.gr
namespace Go.Proofs.Ytfajnnibkcnkaal.gr
open Go.RowKit rows heads
set_option maxRecDepth 100000

/-- Whatever lies as this graph is small. -/
def Small (R : Gr) : Prop := ∀ rs : List MO, rs.map MO.abs = R.objs → gSize rs R ≤ 1048576
theorem small_same {G R : Gr} (ho : R.objs = G.objs) (hr : R.roots.length ≤ G.roots.length) (hm : R.mourned.length ≤ G.mourned.length) (h : ∃ ms : List MO, ms.map MO.abs = G.objs ∧ gSize ms G ≤ 1048576) : Small R := by
  obtain ⟨ms, e, hs⟩ := h
  intro rs er
  have := gSize_of (er.trans ho) e hs
  unfold gSize at this ⊢
  omega
theorem small_zero : Small gr0 := by
  intro rs er
  have e : rs = [] := by simpa [gr0] using er
  subst e
  decide
theorem hR_GCopied (G : Gr) (t f : Int) (h : ∃ ms : List MO, ms.map MO.abs = G.objs ∧ gSize ms G ≤ 1048576) : Small (gCopied G t f).1 := by
  unfold gCopied copyRoot
  split
  · split
    · exact small_same (G := G) rfl (by simp) (Nat.le_refl _) h
    · exact small_same (G := G) rfl (Nat.le_refl _) (Nat.le_refl _) h
  · exact small_zero
theorem hR_GFetched (G : Gr) (t f s : Int) (h : ∃ ms : List MO, ms.map MO.abs = G.objs ∧ gSize ms G ≤ 1048576) : Small (gFetched G t f s).1 := by
  unfold gFetched fetch
  split
  · split
    · exact small_same (G := G) rfl (by simp) (Nat.le_refl _) h
    · exact small_same (G := G) rfl (Nat.le_refl _) (Nat.le_refl _) h
  · exact small_zero
theorem hR_GPut (G : Gr) (x : Int) (e : Rf) (h : ∃ ms : List MO, ms.map MO.abs = G.objs ∧ gSize ms G ≤ 1048576) : Small (gPut G x e).1 := by
  unfold gPut putR
  split
  · split
    · exact small_same (G := G) rfl (by simp) (Nat.le_refl _) h
    · exact small_same (G := G) rfl (Nat.le_refl _) (Nat.le_refl _) h
  · exact small_zero
/-- How many slots these objects have. -/
def slotsOf : List Ob → Nat
  | [] => 0
  | o :: os => o.slots.length + slotsOf os
theorem slotsOf_abs : ∀ ms : List MO, slotsLen ms = slotsOf (ms.map MO.abs)
  | [] => rfl
  | m :: ms => by
    have := slotsOf_abs ms
    simp only [List.map_cons, slotsOf]
    rw [← this]
    rfl
theorem slotsOf_setSlot : ∀ (os : List Ob) (k j : Nat) (e : Rf), slotsOf (setSlot os k j e) = slotsOf os
  | [], _, _, _ => by simp [setSlot]
  | o :: os, 0, j, e => by simp [setSlot, slotsOf]
  | o :: os, k + 1, j, e => by
    have := slotsOf_setSlot os k j e
    simpa [setSlot, slotsOf] using this
theorem hR_GStored (G : Gr) (t s f : Int) (h : ∃ ms : List MO, ms.map MO.abs = G.objs ∧ gSize ms G ≤ 1048576) : Small (gStored G t s f).1 := by
  unfold gStored store
  split
  · split
    · obtain ⟨ms, e, hs⟩ := h
      intro rs er
      have er' : rs.map MO.abs = setSlot G.objs (plc G t) s.toNat (rootAt G f) := er
      have l1 : rs.length = ms.length := by
        have h1 := congrArg List.length er'
        have h2 := congrArg List.length e
        simp only [List.length_map, setSlot, List.length_set] at h1 h2
        omega
      have l2 : slotsLen rs = slotsLen ms := by rw [slotsOf_abs, slotsOf_abs, er', slotsOf_setSlot, e]
      unfold gSize at hs ⊢
      show rs.length + slotsLen rs + G.roots.length + G.mourned.length ≤ _
      omega
    · exact small_same (G := G) rfl (Nat.le_refl _) (Nat.le_refl _) h
  · exact small_zero
end Go.Proofs.Ytfajnnibkcnkaal.gr
