/-
  Chapter 7 as lists: who grieves, in order. Chapter 7 as the program has it: grievingPlaces. Chapter 7 as the program has it: Grieving. Chapter 1 as the specification has it: is a number in a list, and a number into a list that rises. Chapter 1 as the specification has it: a number into a list that rises.
-/
import Derived.Test.YtfajnnibkcnkaalM9
import Derived.Test.YtfajnnibkcnkaalM11
import Derived.Maps.AppendAt
namespace Go.Proofs.Ytfajnnibkcnkaal.gr
open Go.RowKit rows heads
set_option linter.unusedVariables false

/-- The one at this place grieves. -/
def Grv (G : Gr) (p : Nat) : Prop := Rch G p ∧ (G.objs.getD p obD).fmt = 2 ∧ ∃ q, awt G.objs (G.objs.getD p obD) = some q ∧ ¬ Rch G q
/-- In order of Hash, then Id. -/
def ltG (os : List Ob) (p q : Nat) : Prop := (os.getD p obD).hash < (os.getD q obD).hash ∨ ((os.getD p obD).hash = (os.getD q obD).hash ∧ (os.getD p obD).id < (os.getD q obD).id)
/-- These places are of those that grieve, in order. -/
def IsG (G : Gr) (ps : List Nat) : Prop := ps.Pairwise (ltG G.objs) ∧ ∀ p, p ∈ ps ↔ Grv G p
theorem pw_ext {lt : Nat → Nat → Prop} (asy : ∀ a b, lt a b → ¬ lt b a) : ∀ {xs ys : List Nat}, xs.Pairwise lt → ys.Pairwise lt → (∀ a, a ∈ xs ↔ a ∈ ys) → xs = ys
  | [], [], _, _, _ => rfl
  | [], y :: ys, _, _, h => absurd ((h y).2 (by simp)) (by simp)
  | x :: xs, [], _, _, h => absurd ((h x).1 (by simp)) (by simp)
  | x :: xs, y :: ys, hx, hy, h => by
    obtain ⟨hx1, hx2⟩ := List.pairwise_cons.1 hx
    obtain ⟨hy1, hy2⟩ := List.pairwise_cons.1 hy
    have e : x = y := by
      rcases List.mem_cons.1 ((h x).1 (by simp)) with e | e
      · exact e
      · rcases List.mem_cons.1 ((h y).2 (by simp)) with e' | e'
        · exact e'.symm
        · exact absurd (hx1 y e') (asy _ _ (hy1 x e))
    subst e
    rw [pw_ext asy hx2 hy2 fun a => ?_]
    constructor
    · intro ha
      rcases List.mem_cons.1 ((h a).1 (by simp [ha])) with e | e
      · subst e; exact absurd (hx1 _ ha) (fun k => asy _ _ k k)
      · exact e
    · intro ha
      rcases List.mem_cons.1 ((h a).2 (by simp [ha])) with e | e
      · subst e; exact absurd (hy1 _ ha) (fun k => asy _ _ k k)
      · exact e
theorem ltG_as (os : List Ob) (a b : Nat) (h : ltG os a b) : ¬ ltG os b a := by unfold ltG at *; omega
theorem isG_unique {G : Gr} {ps qs : List Nat} (h : IsG G ps) (k : IsG G qs) : ps = qs := pw_ext (ltG_as G.objs) h.1 k.1 fun a => by rw [h.2, k.2]
/-- One more, behind those with a Hash that is not greater. -/
def insG (os : List Ob) (p : Nat) : List Nat → List Nat
  | [] => [p]
  | q :: qs => if (os.getD q obD).hash ≤ (os.getD p obD).hash then q :: insG os p qs else p :: q :: qs
theorem mem_insG {os : List Ob} {p : Nat} : ∀ {qs : List Nat} {a : Nat}, a ∈ insG os p qs ↔ a = p ∨ a ∈ qs
  | [], a => by simp [insG]
  | q :: qs, a => by
    unfold insG
    split
    · rw [List.mem_cons, mem_insG, List.mem_cons]
      constructor
      · rintro (h | h | h) <;> simp [h]
      · rintro (h | h | h) <;> simp [h]
    · simp
theorem pw_insG {os : List Ob} {p : Nat} : ∀ {qs : List Nat}, qs.Pairwise (ltG os) → (∀ q ∈ qs, (os.getD q obD).id < (os.getD p obD).id) → (insG os p qs).Pairwise (ltG os)
  | [], _, _ => by simp [insG]
  | q :: qs, h, hi => by
    obtain ⟨h1, h2⟩ := List.pairwise_cons.1 h
    have hq := hi q (by simp)
    unfold insG
    split
    · rename_i e
      refine List.pairwise_cons.2 ⟨fun a ha => ?_, pw_insG h2 (fun r hr => hi r (by simp [hr]))⟩
      rcases mem_insG.1 ha with e' | e'
      · rw [e']; unfold ltG; omega
      · exact h1 a e'
    · rename_i e
      refine List.pairwise_cons.2 ⟨fun a ha => ?_, h⟩
      rcases List.mem_cons.1 ha with e' | e'
      · rw [e']; unfold ltG; omega
      · have := h1 a e'; unfold ltG at *; omega
theorem len_insG (os : List Ob) (p : Nat) : ∀ qs : List Nat, (insG os p qs).length = qs.length + 1
  | [] => rfl
  | q :: qs => by
    unfold insG
    split
    · rw [List.length_cons, len_insG os p qs]; rfl
    · rfl
/-- As the specification finds the place. -/
theorem insG_at {os : List Ob} {p : Nat} : ∀ {qs : List Nat} {k : Nat}, k ≤ qs.length → (∀ i, i < k → (os.getD (qs.getD i 0) obD).hash ≤ (os.getD p obD).hash) → (k < qs.length → ¬ (os.getD (qs.getD k 0) obD).hash ≤ (os.getD p obD).hash) → insG os p qs = qs.take k ++ p :: qs.drop k
  | [], k, hk, _, _ => by
    have e : k = 0 := by simpa using hk
    subst e
    rfl
  | q :: qs, 0, _, _, h2 => by
    have h3 := h2 (by simp)
    simp only [List.getD_cons_zero] at h3
    unfold insG
    rw [if_neg h3]
    rfl
  | q :: qs, k + 1, hk, h1, h2 => by
    have h3 : (os.getD q obD).hash ≤ (os.getD p obD).hash := h1 0 (by omega)
    have ih := @insG_at os p qs k (by simpa using hk) (fun i hi => h1 (i + 1) (by omega)) (fun hi => h2 (by simpa using hi))
    unfold insG
    rw [if_pos h3, ih]
    rfl
/-- Those up to k of which f says yes, in order. -/
def sortG (os : List Ob) (f : Nat → Bool) : Nat → List Nat
  | 0 => []
  | k + 1 => if f k = true then insG os k (sortG os f k) else sortG os f k
theorem mem_sortG {os : List Ob} {f : Nat → Bool} : ∀ {k a : Nat}, a ∈ sortG os f k ↔ a < k ∧ f a = true
  | 0, a => by simp [sortG]
  | k + 1, a => by
    unfold sortG
    by_cases h : f k = true
    · rw [if_pos h, mem_insG, mem_sortG]
      constructor
      · rintro (e | ⟨e1, e2⟩)
        · subst e; exact ⟨by omega, h⟩
        · exact ⟨by omega, e2⟩
      · rintro ⟨e1, e2⟩
        by_cases e : a = k
        · exact .inl e
        · exact .inr ⟨by omega, e2⟩
    · rw [if_neg h, mem_sortG]
      constructor
      · rintro ⟨e1, e2⟩; exact ⟨by omega, e2⟩
      · rintro ⟨e1, e2⟩
        by_cases e : a = k
        · subst e; exact absurd e2 h
        · exact ⟨by omega, e2⟩
theorem pw_sortG {os : List Ob} (hr : Rise os) {f : Nat → Bool} : ∀ {k : Nat}, k ≤ os.length → (sortG os f k).Pairwise (ltG os)
  | 0, _ => by simp [sortG]
  | k + 1, hk => by
    unfold sortG
    split
    · exact pw_insG (pw_sortG hr (by omega)) fun q hq => hr q k (mem_sortG.1 hq).1 (by omega)
    · exact pw_sortG hr (by omega)
theorem len_sortG (os : List Ob) (f : Nat → Bool) : ∀ k, (sortG os f k).length ≤ k
  | 0 => by simp [sortG]
  | k + 1 => by
    have := len_sortG os f k
    unfold sortG
    split
    · rw [len_insG]; omega
    · omega
theorem grv_lt {G : Gr} {p : Nat} (h : Grv G p) : p < G.objs.length := rch_lt h.1
/-- Whoever tells who grieves, has it so. -/
theorem isG_sort {G : Gr} (hG : gOk G = true) {f : Nat → Bool} (hf : ∀ p, p < G.objs.length → (f p = true ↔ Grv G p)) : IsG G (sortG G.objs f G.objs.length) := by
  refine ⟨pw_sortG (gOk_rise hG) (Nat.le_refl _), fun p => ?_⟩
  rw [mem_sortG]
  constructor
  · rintro ⟨h1, h2⟩; exact (hf p h1).1 h2
  · intro h; exact ⟨grv_lt h, (hf p (grv_lt h)).2 h⟩
theorem isG_ex {G : Gr} (hG : gOk G = true) : ∃ ps, IsG G ps := by
  classical
  exact ⟨_, isG_sort hG (f := fun p => decide (Grv G p)) fun p _ => by simp⟩
/-- Told out of what is reached. -/
def gB (G : Gr) (is : List Bool) (p : Nat) : Bool := is.getD p false && ((G.objs.getD p obD).fmt == 2 && match awt G.objs (G.objs.getD p obD) with | some q => !is.getD q false | none => false)
theorem gB_grv {G : Gr} {is : List Bool} (h : ∀ p, is.getD p false = true ↔ Rch G p) (p : Nat) : gB G is p = true ↔ Grv G p := by
  unfold gB Grv
  simp only [Bool.and_eq_true, beq_iff_eq]
  rw [h p]
  cases ha : awt G.objs (G.objs.getD p obD) with
  | none => simp
  | some q =>
    simp only [Bool.not_eq_true', Option.some.injEq]
    constructor
    · rintro ⟨h1, h2, h3⟩
      exact ⟨h1, h2, q, rfl, fun k => by rw [(h q).2 k] at h3; cases h3⟩
    · rintro ⟨h1, h2, q', rfl, h3⟩
      refine ⟨h1, h2, ?_⟩
      cases hq : is.getD q false
      · rfl
      · exact absurd ((h q).1 hq) h3
/-- The Ids of those that grieve, in order; none of a graph that is not right. -/
def IsGrieving (G : Gr) (xs : List Int) : Prop := (gOk G = false ∧ xs = []) ∨ (gOk G = true ∧ ∃ ps, IsG G ps ∧ xs = ps.map fun p => (G.objs.getD p obD).id)
theorem isGrieving_ex (G : Gr) : ∃ xs, IsGrieving G xs := by
  cases h : gOk G
  · exact ⟨[], .inl ⟨h, rfl⟩⟩
  · obtain ⟨ps, hp⟩ := isG_ex h
    exact ⟨_, .inr ⟨h, ps, hp, rfl⟩⟩
theorem isG_len {G : Gr} (hG : gOk G = true) {ps : List Nat} (h : IsG G ps) : ps.length ≤ 200 := by
  classical
  have e := isG_unique h (isG_sort hG (f := fun p => decide (Grv G p)) fun p _ => by simp)
  rw [e]
  exact Nat.le_trans (len_sortG _ _ _) (gOk_len hG).1
theorem isGrieving_len {G : Gr} {xs : List Int} (h : IsGrieving G xs) : xs.length ≤ 200 := by
  rcases h with ⟨_, rfl⟩ | ⟨h1, ps, h2, rfl⟩
  · simp
  · rw [List.length_map]; exact isG_len h1 h2
end Go.Proofs.Ytfajnnibkcnkaal.gr
namespace Go.Proofs.Ytfajnnibkcnkaal.gr
open Go.RowKit rows heads
set_option maxRecDepth 100000
set_option linter.unusedVariables false

theorem infoI : (Try.prog.info? 3).map (fun i => (i.zero, i.size, i.bytes)) = some (some (.int .i64 0), 1, 8) := by kernel_rfl
/-- The places up to k of those that grieve. -/
def pls (G : Gr) (is : List Bool) (k : Nat) : List Nat := (List.range k).filter (gB G is)
abbrev numP (ps : List Nat) : List Int := ps.map fun p => ((p : Nat) : Int)
theorem pls_yes {G : Gr} {is : List Bool} {k : Nat} (h : gB G is k = true) : pls G is (k + 1) = pls G is k ++ [k] := by
  unfold pls
  rw [List.range_succ, List.filter_append]
  simp [h]
theorem pls_no {G : Gr} {is : List Bool} {k : Nat} (h : gB G is k = false) : pls G is (k + 1) = pls G is k := by
  unfold pls
  rw [List.range_succ, List.filter_append]
  simp [h]
theorem pls_len (G : Gr) (is : List Bool) (k : Nat) : (pls G is k).length ≤ k := by
  unfold pls
  exact Nat.le_trans (List.length_filter_le _ _) (by simp)
theorem mem_pls {G : Gr} {is : List Bool} {k p : Nat} : p ∈ pls G is k ↔ p < k ∧ gB G is p = true := by
  unfold pls
  rw [List.mem_filter, List.mem_range]
theorem pls_nodup (G : Gr) (is : List Bool) (k : Nat) : (pls G is k).Nodup := by
  unfold pls
  exact List.Pairwise.filter _ List.nodup_range
/-- Places as numbers below n. -/
theorem fin_of {n : Nat} : ∀ (ps : List Nat), (∀ p ∈ ps, p < n) → ∃ pf : List (Fin n), pf.map Fin.val = ps
  | [], _ => ⟨[], rfl⟩
  | p :: ps, h => by
    obtain ⟨pf, e⟩ := fin_of ps (fun q hq => h q (by simp [hq]))
    exact ⟨⟨p, h p (by simp)⟩ :: pf, by simp [e]⟩
theorem gB_is {G : Gr} {is : List Bool} {p : Nat} (h : is.getD p false = false) : gB G is p = false := by unfold gB; rw [h]; rfl
theorem gB_fmt {G : Gr} {is : List Bool} {p : Nat} (h : ¬ (G.objs.getD p obD).fmt = 2) : gB G is p = false := by
  unfold gB
  have : ((G.objs.getD p obD).fmt == 2) = false := by simpa using h
  rw [this]
  simp
theorem gB_none {G : Gr} {is : List Bool} {p : Nat} (h : awt G.objs (G.objs.getD p obD) = none) : gB G is p = false := by
  unfold gB
  rw [h]
  simp
theorem gB_some {G : Gr} {is : List Bool} {p q : Nat} (h1 : is.getD p false = true) (h2 : (G.objs.getD p obD).fmt = 2) (h : awt G.objs (G.objs.getD p obD) = some q) : gB G is p = !is.getD q false := by
  unfold gB
  rw [h, h1, h2]
  simp

set_option maxHeartbeats 16000000 in
theorem grievingPlaces_any {w : World} {o r m : Value} {ms : List MO} {G : Gr} (h : GraphAt w o r m ms G) (ok : gOk G = true) :
    Calls Try.prog 40 #[gv o r m G.next G.seed] w fun e w' => ∃ v ps, e = .returned v ∧ IsG G ps ∧ OwnT 3 w' w.heap.size v (numP ps) ∧ Below w.heap.size w w' := by
  obtain ⟨a1, n1, c1, a2, n2, c2, a3, n3, c3, e1, e2, e3⟩ := graphAt_slices h
  subst e1 e2 e3
  obtain ⟨ao, co, eo, _⟩ := h.2.1.1
  injection eo with e1 e2 e3
  subst e1 e2 e3
  have B : Below w.heap.size w (w.alloc (gb (.slice a1 ms.length c1) (.slice a2 n2 c2) (.slice a3 n3 c3) G.next G.seed)) := (Below.refl _ w).alloc (Nat.le_refl _) _
  have T := five_new w 32 (.slice a1 ms.length c1) (.slice a2 n2 c2) (.slice a3 n3 c3) (.int .i64 G.next) (.int .i64 G.seed)
  have RP := reachedPlaces_any (graphAt_below h B) ok
  have hlen := graphAt_len h
  have h200 := (gOk_len ok).1
  have hms : ms.length ≤ 200 := by omega
  have HG : Hid _ := h
  have HOK : Hid _ := ok
  have HB : Hid _ := B
  have HT : Hid _ := T
  have HLEN : Hid _ := hlen
  clear h B T ok hlen h200
  go_enter Try.func40, Try.ntmps40
  go_wp2_with fail
  generalize hX : (w.alloc (gb (.slice a1 ms.length c1) (.slice a2 n2 c2) (.slice a3 n3 c3) G.next G.seed)) = X at *
  clear hX
  refine RP.mono ?_
  rintro e w1 ⟨Bi, is, rfl, hBi, hlo, hil, hrc, b1⟩
  have B1 := HB.out.trans (b1.mono HB.out.size)
  have T1 := five_below HT.out b1
  have N1 : Below w1.heap.size w1 (w1.alloc (.cells #[] 3)) := (Below.refl _ _).alloc (Nat.le_refl _) _
  have B2 := B1.trans (N1.mono B1.size)
  have T2 := five_below T1 N1
  have hBi2 : (w1.alloc (.cells #[] 3)).heap[Bi]? = some (.cells (is.map Value.bool).toArray 4 (0, 0)) := (N1.block Bi (lt_of_block hBi)).trans hBi
  have HO2 : Hid (OwnT 3 (w1.alloc (.cells #[] 3)) w.heap.size (.slice (some ⟨w1.heap.size, 0, none⟩) 0 0) []) := ownT_empty B1.size
  have hwB : w.heap.size < Bi := by have := lt_of_block HT.out; omega
  have hBE : Bi < w1.heap.size := lt_of_block hBi
  obtain ⟨z0, z1, z2, z3, z4, _⟩ := five_cells T2
  have HRC : Hid _ := hrc
  have HBI : Hid _ := hBi2
  have HB2 : Hid _ := B2
  have HT2 : Hid _ := T2
  obtain ⟨i0, hi0, hz0, hz1, hz2⟩ := info_parts infoI
  have HI0 : Hid _ := hi0
  have HZ0 : Hid _ := hz0
  have HZ1 : Hid _ := hz1
  have HZ2 : Hid _ := hz2
  have szE : w1.heap.size < (w1.alloc (.cells #[] 3)).heap.size := by simp
  clear RP HB HT b1 B1 T1 N1 B2 T2 hBi hBi2 hrc hlo hi0 hz0 hz1 hz2
  go_wp2_with fail
  generalize hX2 : (w1.alloc (.cells #[] 3)) = X2 at *
  generalize hE : w1.heap.size = E at *
  clear hX2 hE z0 z1 z2 z3 z4
  go_loopw [4, 14] (fun v p wr => ∃ (k : Nat) (vv : Value), vv = v ∧ k ≤ ms.length ∧ p = .int .i64 k ∧ OwnT 3 wr w.heap.size vv (numP (pls G is k)) ∧ (∀ b ∈ blk vv, b ≠ Bi ∧ w.heap.size < b) ∧ (∃ g c, vv = .slice (some ⟨g, 0, none⟩) (pls G is k).length c) ∧ wr.heap[Bi]? = some (.cells (is.map Value.bool).toArray 4 (0, 0)) ∧ Five wr w.heap.size 32 (.slice a1 ms.length c1) (.slice a2 n2 c2) (.slice a3 n3 c3) (.int .i64 G.next) (.int .i64 G.seed) ∧ Below w.heap.size w wr) (fun _ p _ => ms.length - (intOf p).toNat)
  case atStart => exact ⟨0, _, rfl, Nat.zero_le _, rfl, HO2.out, fun b hb => (by simp [blk, Value.ownBlock] at hb; omega), ⟨E, 0, rfl⟩, HBI.out, HT2.out, HB2.out⟩
  case round =>
    clear HO2 HBI HT2 HB2
    obtain ⟨k, vv, rfl, hk, rfl, hO, hbk, ⟨gg, gc, hvv⟩, hBi, hT, hB⟩ := hrel
    subst hvv
    have HO : Hid _ := hO
    have HBK : Hid _ := hbk
    have HBI : Hid _ := hBi
    have HT : Hid _ := hT
    have HB : Hid _ := hB
    by_cases hlt : k < ms.length
    · obtain ⟨ao, co, eo, _, _, _, hco⟩ := orowAt_below HG.out.2.1.1 hB
      injection eo with e1 e2 e3
      subst e1 e3
      obtain ⟨b1, off1, rfl, hb1, hcc1⟩ := hco (by omega)
      obtain ⟨x0, x1, x2, x3, x4⟩ := hcc1 k hlt
      have hmo : (ms.getD k moD).abs = G.objs.getD k obD := graphAt_get HG.out k
      have hsv := refsAt_below (HG.out.2.1.2 _ (mem_getD hlt)) hB
      obtain ⟨sa, sc, hsl, _⟩ := id hsv
      have hkG : k < G.objs.length := by rw [← HLEN.out]; exact hlt
      have HKEY : Hid ((ms.getD k moD).fmt = 2 → 0 < (ms.getD k moD).slots.length) := fun e => by
        have h1 := (right_obj HOK.out hkG).1 (by rw [← hmo]; exact e)
        rw [← hmo] at h1
        exact h1
      have HAWT : Hid (awt G.objs (G.objs.getD k obD) = if (ms.getD k moD).fmt = 2 ∧ ledB G.objs ((ms.getD k moD).slots.getD 0 refD) = true then some (ledP G.objs ((ms.getD k moD).slots.getD 0 refD)) else none) := by
        show _ = _
        rw [← hmo]
        rfl
      have HFM : Hid ((ms.getD k moD).fmt = (G.objs.getD k obD).fmt) := by show _ = _; rw [← hmo]; rfl
      have HAB : Hid (∀ V, Below wr.heap.size wr V → (ms.getD k moD).fmt = 2 → Calls Try.prog 74 #[.slice (some ⟨b1, off1, none⟩) ms.length c1, ov (ms.getD k moD)] V fun e w' => e = .returned (.int .i64 (awI G.objs (ms.getD k moD).slots)) ∧ Below V.heap.size V w') := fun V hV e => awaitedBy_any (orowAt_below (orowAt_below HG.out.2.1.1 hB) hV) (objs_slices HG.out.2.1) HG.out.1 (gOk_rise HOK.out) (by omega) _ (refsAt_below hsv hV) (HKEY.out e)
      have HCB : Hid (∀ V, Below wr.heap.size wr V → ∀ p, p < ms.length → V.cell? ⟨Bi, p, none⟩ = some (.bool (is.getD p false))) := fun V hV p hp => cell_of ((hV.block Bi (lt_of_block hBi)).trans hBi) (by
        rw [List.getElem?_map, List.getD_eq_getElem?_getD, List.getElem?_eq_getElem (by omega)]
        rfl)
      have HKP : Hid (∀ V, Below wr.heap.size wr V → OwnT 3 V w.heap.size (.slice (some ⟨gg, 0, none⟩) (pls G is k).length gc) (numP (pls G is k)) ∧ V.heap[Bi]? = some (.cells (is.map Value.bool).toArray 4 (0, 0)) ∧ Five V w.heap.size 32 (.slice (some ⟨b1, off1, none⟩) ms.length c1) (.slice a2 n2 c2) (.slice a3 n3 c3) (.int .i64 G.next) (.int .i64 G.seed) ∧ Below w.heap.size w V) := fun V hV => ⟨row_below hO hV, (hV.block Bi (lt_of_block hBi)).trans hBi, five_below hT hV, hB.trans (hV.mono hB.size)⟩
      have HNO : Hid (gB G is k = false → ∀ V, Below wr.heap.size wr V → OwnT 3 V w.heap.size (.slice (some ⟨gg, 0, none⟩) (pls G is k).length gc) (numP (pls G is (k + 1))) ∧ (∀ b ∈ blk (.slice (some ⟨gg, 0, none⟩) (pls G is k).length gc), b ≠ Bi ∧ w.heap.size < b) ∧ (∃ g c, Value.slice (some ⟨gg, 0, none⟩) (pls G is k).length gc = .slice (some ⟨g, 0, none⟩) (pls G is (k + 1)).length c) ∧ V.heap[Bi]? = some (.cells (is.map Value.bool).toArray 4 (0, 0)) ∧ Five V w.heap.size 32 (.slice (some ⟨b1, off1, none⟩) ms.length c1) (.slice a2 n2 c2) (.slice a3 n3 c3) (.int .i64 G.next) (.int .i64 G.seed) ∧ Below w.heap.size w V) := fun e V hV => by
        obtain ⟨k1, k2, k3, k4⟩ := HKP.out V hV
        rw [pls_no e]
        exact ⟨k1, hbk, ⟨gg, gc, rfl⟩, k2, k3, k4⟩
      have HYES : Hid (gB G is k = true → ∀ V, Below wr.heap.size wr V → ∀ (v' : Value) (w5 : World), w5.ownsRow w.heap.size 3 1 v' ((pls G is k).length + 1) (cellsOf (numP (pls G is k)) ++ [.int .i64 (k : Int)]) → (V.alloc (.cells #[.int .i64 (k : Int)] 3)).grownBy w5 (Value.slice (some ⟨gg, 0, none⟩) (pls G is k).length gc).ownBlock → (v'.ownBlock = (Value.slice (some ⟨gg, 0, none⟩) (pls G is k).length gc).ownBlock ∨ v'.ownBlock = some (V.alloc (.cells #[.int .i64 (k : Int)] 3)).heap.size) →
          (∃ g c, v' = .slice (some ⟨g, 0, none⟩) ((pls G is k).length + 1) c) ∧ OwnT 3 w5 w.heap.size v' (numP (pls G is (k + 1))) ∧ (∀ b ∈ blk v', b ≠ Bi ∧ w.heap.size < b) ∧ (∃ g c, v' = .slice (some ⟨g, 0, none⟩) (pls G is (k + 1)).length c) ∧ w5.heap[Bi]? = some (.cells (is.map Value.bool).toArray 4 (0, 0)) ∧ Five w5 w.heap.size 32 (.slice (some ⟨b1, off1, none⟩) ms.length c1) (.slice a2 n2 c2) (.slice a3 n3 c3) (.int .i64 G.next) (.int .i64 G.seed) ∧ Below w.heap.size w w5) := fun e V hV v' w5 hown hg hat => by
        obtain ⟨k1, k2, k3, k4⟩ := HKP.out V hV
        have hl : (numP (pls G is k)).length = (pls G is k).length := by simp
        obtain ⟨on, ch, nb⟩ := app_num (x := (k : Int)) k1 (by rw [hl]; exact hown) hg hat
        have lB := lt_of_block k2
        have sV := hV.size
        have lw := lt_of_block hT
        have hform : ∃ g c, v' = .slice (some ⟨g, 0, none⟩) ((pls G is k).length + 1) c := by
          obtain ⟨_, ⟨_, q0⟩ | ⟨g, c', cur, q1, _⟩⟩ := hown
          · omega
          · exact ⟨g, c', q1⟩
        rw [pls_yes e]
        refine ⟨hform, by rw [numP, List.map_append]; exact on, fun b hb => ?_, by rw [List.length_append]; exact hform, (ch.block Bi lB (fun e => (hbk Bi e).1 rfl)).trans k2, five_ch k3 ch (fun e => Nat.lt_irrefl _ (hbk _ e).2), k4.trans (below_ch ch k4.size fun b hb => by have := (hbk b hb).2; omega)⟩
        rcases nb b hb with e | e
        · exact hbk b e
        · have := lt_of_block hBi; omega
      clear hmo hco hcc1 hkG
      generalize ms.getD k moD = mo at *
      obtain ⟨mi, mc, mf, mh, msv, msl⟩ := mo
      simp only at x0 x1 x2 x3 x4 hsl hsv HKEY HAWT HFM HAB
      subst hsl
      have BY : Below wr.heap.size wr (wr.alloc (ob ⟨mi, mc, mf, mh, .slice sa msl.length sc, msl⟩)) := (Below.refl _ _).alloc (Nat.le_refl _) _
      have TY := five_new wr 51 (.int .i64 mi) (.int .i64 mc) (.int .i64 mf) (.int .i64 mh) (.slice sa msl.length sc)
      obtain ⟨t0, t1, t2, t3, t4, _⟩ := five_cells TY
      have ci := HCB.out _ BY k hlt
      obtain ⟨q0, _⟩ := five_cells (five_below hT BY)
      have HBY : Hid _ := BY
      clear hO hbk hBi hT hB hsv TY e2
      cases di : is.getD k false
      · have HX : Hid _ := HNO.out (gB_is di) _ HBY.out
        rw [di] at ci
        clear HAB HCB HKP HNO HYES HAWT HKEY HFM BY di
        go_wp2
        exact ⟨⟨k + 1, _, rfl, by omega, by go_num, HX.out⟩, by simp [intOf]; omega⟩
      · rw [di] at ci
        by_cases hf : mf = 2
        · subst hf
          have AB := HAB.out _ BY rfl
          have HAWI : Hid (awI G.objs msl = if ledB G.objs (msl.getD 0 refD) = true then (ledP G.objs (msl.getD 0 refD) : Int) else -1) := rfl
          cases dl : ledB G.objs (msl.getD 0 refD)
          · have ea : awt G.objs (G.objs.getD k obD) = none := by rw [HAWT.out, dl]; simp
            have HN : Hid _ := HNO.out (gB_none ea)
            have ei : awI G.objs msl = -1 := by rw [HAWI.out, dl]; rfl
            rw [ei] at AB
            clear HAB HCB HKP HNO HYES HAWT HKEY HFM BY di HAWI ea ei
            go_wp2_with (go_at_call 74; refine AB.mono ?_; clear AB; rintro e w4 ⟨rfl, b4⟩; have HX : Hid _ := HN.out w4 (HBY.out.trans (b4.mono HBY.out.size)); clear b4)
            exact ⟨⟨k + 1, _, rfl, by omega, by go_num, HX.out⟩, by simp [intOf]; omega⟩
          · have hq := ledP_lt dl
            rw [← HLEN.out] at hq
            have ea : awt G.objs (G.objs.getD k obD) = some (ledP G.objs (msl.getD 0 refD)) := by rw [HAWT.out, dl]; simp
            have eg := gB_some (is := is) di (by rw [← HFM.out]) ea
            have ei : awI G.objs msl = (ledP G.objs (msl.getD 0 refD) : Int) := by rw [HAWI.out, dl]; rfl
            rw [ei] at AB
            clear HAB HKP HAWT HKEY HFM BY di HAWI ea ei dl
            generalize ledP G.objs (msl.getD 0 refD) = qq at *
            have hm1 : ((qq : Int) != -1) = true := by
              rw [bne_iff_ne]
              omega
            cases dq : is.getD qq false
            · rw [dq] at eg
              have HY : Hid _ := HYES.out eg
              have HCQ : Hid (∀ V, Below wr.heap.size wr V → V.cell? ⟨Bi, qq, none⟩ = some (.bool false)) := fun V hV => by rw [HCB.out V hV qq hq, dq]
              have HKQ : Hid (∀ V, Below wr.heap.size wr V → OwnT 3 (V.alloc (.cells #[.int .i64 (k : Int)] 3)) w.heap.size (.slice (some ⟨gg, 0, none⟩) (pls G is k).length gc) (numP (pls G is k)) ∧ w.heap.size ≤ (V.alloc (.cells #[.int .i64 (k : Int)] 3)).heap.size) := fun V hV => ⟨row_below (row_below HO.out hV) ((Below.refl _ _).alloc (Nat.le_refl _) _), by have := (HB.out.size); have := hV.size; simp; omega⟩
              have hpl := pls_len G is k
              clear HNO HYES HCB eg dq
              go_wp2_with fail
              refine AB.mono ?_
              rintro e w4 ⟨rfl, b4⟩
              have BV := HBY.out.trans (b4.mono HBY.out.size)
              have cq := HCQ.out w4 BV
              obtain ⟨own, sz⟩ := HKQ.out w4 BV
              have HOA : Hid ((w4.alloc (.cells #[.int .i64 (k : Int)] 3)).ownsRow w.heap.size 3 1 (.slice (some ⟨gg, 0, none⟩) (pls G is k).length gc) (pls G is k).length (cellsOf (numP (pls G is k)))) := by
                have := own
                unfold OwnT at this
                rw [List.length_map] at this
                exact this
              have HNW : Hid _ := one_new w4 3 (k : Int)
              have HYV : Hid _ := HY.out w4 BV
              clear AB b4 BV own HY HCQ HKQ
              generalize hps : pls G is k = ps at *
              go_wp2_with (refine wpList_append_own_at _ rfl (.tmp 42) (.tmp 44) 56 rfl w.heap.size 3 i0 (.int .i64 0) 1 8 Try.underlying56 HI0.out HZ0.out HZ1.out HZ2.out rfl (by decide) (.slice (some ⟨gg, 0, none⟩) ps.length gc) ps.length (cellsOf (numP ps)) rfl HOA.out ⟨w4.heap.size, 0, none⟩ 1 1 [.int .i64 (k : Int)] rfl rfl HNW.out (by simp [Value.oneCell']) (by unfold maxLen; omega) (by omega) sz ?_; intro v' w5 hown hgrow _ hat; obtain ⟨⟨g5, c5, rfl⟩, st⟩ := HYV.out v' w5 hown hgrow hat; have HST : Hid _ := st; clear st hown hgrow hat)
              exact ⟨⟨k + 1, _, rfl, by omega, by go_num, HST.out⟩, by simp [intOf]; omega⟩
            · rw [dq] at eg
              have HN : Hid _ := HNO.out eg
              have HCQ : Hid (∀ V, Below wr.heap.size wr V → V.cell? ⟨Bi, qq, none⟩ = some (.bool true)) := fun V hV => by rw [HCB.out V hV qq hq, dq]
              clear HNO HYES HCB eg dq
              go_wp2_with (go_at_call 74; refine AB.mono ?_; clear AB; rintro e w4 ⟨rfl, b4⟩; have cq := HCQ.out w4 (HBY.out.trans (b4.mono HBY.out.size)); have HX : Hid _ := HN.out w4 (HBY.out.trans (b4.mono HBY.out.size)); clear b4)
              exact ⟨⟨k + 1, _, rfl, by omega, by go_num, HX.out⟩, by simp [intOf]; omega⟩
        · have HX : Hid _ := HNO.out (gB_fmt (by rw [← HFM.out]; exact hf)) _ HBY.out
          have hf' : (mf != 2) = true := by simpa using hf
          clear HAB HCB HKP HNO HYES HAWT HKEY HFM BY di hf
          go_wp2
          exact ⟨⟨k + 1, _, rfl, by omega, by go_num, HX.out⟩, by simp [intOf]; omega⟩
    · have e : k = ms.length := by omega
      subst e
      have hgrv : ∀ p, p ∈ pls G is ms.length ↔ Grv G p := fun p => by
        rw [mem_pls, gB_grv HRC.out]
        exact ⟨fun h => h.2, fun h => ⟨by rw [HLEN.out]; exact grv_lt h, h⟩⟩
      by_cases hps : pls G is ms.length = []
      · have HIS : Hid (IsG G []) := ⟨List.Pairwise.nil, fun p => by rw [← hps]; exact hgrv p⟩
        rw [hps]
        rw [hps] at hO HO
        simp only [List.length_nil] at HO ⊢
        have SN := AnyF.slices_SortFunc_none (P := Try.prog) (ρ := lsort_ren) { lsort with } (some ⟨gg, 0, none⟩) gc (.func (.func 76) #[] #[.pointer (some ⟨w.heap.size, 0, none⟩)]) wr
        change Calls Try.prog 75 _ _ _ at SN
        have HOF : Hid (OwnT 3 wr w.heap.size (.slice (some ⟨gg, 0, none⟩) 0 gc) (numP [])) := HO.out
        clear hO hbk hBi hT hB hgrv hps
        go_wp2_with (go_at_call 75; refine SN.mono ?_; clear SN; rintro e w6 ⟨rfl, hw6⟩; rw [hw6]; clear hw6)
        go_ret
        exact ⟨_, [], rfl, HIS.out, HOF.out, HB.out⟩
      · obtain ⟨pf, hpf⟩ := fin_of (n := ms.length) (pls G is ms.length) (fun p hp => (mem_pls.1 hp).1)
        have hnd : pf.Nodup := by
          have h1 := pls_nodup G is ms.length
          rw [← hpf] at h1
          exact (List.pairwise_map.1 h1).imp (fun h e => h (congrArg Fin.val e))
        have hpl : pf.length = (pls G is ms.length).length := by rw [← hpf]; simp
        have hpos : 0 < ms.length := by
          obtain ⟨p0, hp0⟩ := List.exists_mem_of_ne_nil _ hps
          have := (mem_pls.1 hp0).1
          omega
        have hnum : numP (pls G is ms.length) = pf.map fun x => ((x.val : Nat) : Int) := by
          rw [← hpf]
          simp [numP, List.map_map]
        have hlB := pls_len G is ms.length
        have hgg := hbk gg (by simp [blk, Value.ownBlock])
        have SP := sortPlaces_any (W := wr) (base := w.heap.size) (blk := gg) (cap := gc) (Pg := w.heap.size) (a1 := a1) (c1 := c1) (riseM HG.out.1 (gOk_rise HOK.out)) (objs_slices HG.out.2.1) pf hnd hpos (by omega) (by rw [hpl, ← hnum]; exact hO) (fun V hV => by
          have hBV : Below w.heap.size w V := hB.trans (below_ch hV hB.size (fun k hk => by simp at hk; omega))
          have hTV := five_ch hT hV (fun e => by simp at e; omega)
          exact ⟨lt_of_block hTV, (five_cells hTV).1, orowAt_below HG.out.2.1.1 hBV⟩)
        rw [hpl] at SP
        have HFIN : Hid (∀ (w6 : World) (qs : List (Fin ms.length)), OwnT 3 w6 w.heap.size (.slice (some ⟨gg, 0, none⟩) (pls G is ms.length).length gc) (qs.map fun x => ((x.val : Nat) : Int)) → Ch [gg] wr w6 → qs.Pairwise (fun x y => ltOf (cfP ms) x y = true) → (∀ p, p ∈ qs ↔ p ∈ pf) → ∃ ps, IsG G ps ∧ OwnT 3 w6 w.heap.size (.slice (some ⟨gg, 0, none⟩) (pls G is ms.length).length gc) (numP ps) ∧ Below w.heap.size w w6) := fun w6 qs h1 h2 h3 h4 => by
          refine ⟨qs.map Fin.val, ⟨?_, fun p => ?_⟩, ?_, hB.trans (below_ch h2 hB.size (fun k hk => by simp at hk; omega))⟩
          · rw [List.pairwise_map]
            refine h3.imp fun {a b} h => ?_
            have := (ltP ms a b).1 h
            have ga := graphAt_get HG.out a.val
            have gb' := graphAt_get HG.out b.val
            unfold ltG
            rw [← ga, ← gb']
            exact this
          · rw [← hgrv p, ← hpf, List.mem_map, List.mem_map]
            constructor
            · rintro ⟨x, hx, e⟩; exact ⟨x, (h4 x).1 hx, e⟩
            · rintro ⟨x, hx, e⟩; exact ⟨x, (h4 x).2 hx, e⟩
          · have e : numP (qs.map Fin.val) = qs.map fun x => ((x.val : Nat) : Int) := by simp [numP, List.map_map]
            rw [e]
            exact h1
        clear hO hbk hBi hT hB hgrv hps hpf hnd hpl hnum hgg
        generalize (pls G is ms.length).length = nn at *
        go_wp2_with (go_at_call 75; refine SP.mono ?_; clear SP; rintro e w6 ⟨rfl, qs, o6, ch6, pw6, mm6, _⟩; obtain ⟨ps, f1, f2, f3⟩ := HFIN.out w6 qs o6 ch6 pw6 mm6; have HF1 : Hid _ := f1; have HF2 : Hid _ := f2; have HF3 : Hid _ := f3; clear f1 f2 f3 o6 ch6 pw6 mm6)
        go_ret
        exact ⟨_, ps, rfl, HF1.out, HF2.out, HF3.out⟩
end Go.Proofs.Ytfajnnibkcnkaal.gr
namespace Go.Proofs.Ytfajnnibkcnkaal.gr
open Go.RowKit rows heads
set_option maxRecDepth 100000
set_option linter.unusedVariables false

theorem ownT_cell {t : TypeId} {w : World} {base : Nat} {a : Option Addr} {n c : Nat} {xs : List Int} (h : OwnT t w base (.slice a n c) xs) {i : Nat} (hi : i < xs.length) : ∃ g, a = some ⟨g, 0, none⟩ ∧ w.cell? ⟨g, i, none⟩ = some (.int .i64 (xs.getD i 0)) ∧ g < w.heap.size := by
  have h' := h
  obtain ⟨h0, ⟨h1, h2⟩ | ⟨g, cap, cur, h1, hg, hh, _⟩⟩ := h
  · omega
  · injection h1 with e1 e2 e3
    subst e1 e2 e3
    have := World.ownsRow.cellAt h' i (by omega)
    refine ⟨g, rfl, ?_, lt_of_block hh⟩
    rw [this]
    simp [List.getD_eq_getElem?_getD, List.getElem?_eq_getElem hi]
/-- The Ids at these places. -/
abbrev idsP (os : List Ob) (ps : List Nat) : List Int := ps.map fun p => (os.getD p obD).id
theorem idsP_next (os : List Ob) {ps : List Nat} {k : Nat} (hk : k < ps.length) : idsP os (ps.take (k + 1)) = idsP os (ps.take k) ++ [(os.getD (ps.getD k 0) obD).id] := by
  have e : ps.take (k + 1) = ps.take k ++ [ps.getD k 0] := by
    rw [List.take_add_one, List.getD_eq_getElem?_getD, List.getElem?_eq_getElem hk]
    rfl
  rw [e]
  unfold idsP
  rw [List.map_append]
  rfl

set_option maxHeartbeats 8000000 in
theorem implGrieving {w : World} {o r m : Value} {ms : List MO} {G : Gr} (h : GraphAt w o r m ms G) (hs : gSize ms G ≤ 1048576) {xs : List Int} (hx : IsGrieving G xs) :
    Calls Try.prog 18 #[gv o r m G.next G.seed] w fun e w' => ∃ v, e = .returned v ∧ Own w' w.heap.size v xs ∧ Below w.heap.size w w' := by
  obtain ⟨a1, n1, c1, a2, n2, c2, a3, n3, c3, e1, e2, e3⟩ := graphAt_slices h
  subst e1 e2 e3
  have B : Below w.heap.size w (w.alloc (gb (.slice a1 n1 c1) (.slice a2 n2 c2) (.slice a3 n3 c3) G.next G.seed)) := (Below.refl _ w).alloc (Nat.le_refl _) _
  have T := five_new w 32 (.slice a1 n1 c1) (.slice a2 n2 c2) (.slice a3 n3 c3) (.int .i64 G.next) (.int .i64 G.seed)
  have GO := implGraphOk (graphAt_below h B) hs
  have HG : Hid _ := h
  have HB : Hid _ := B
  have HT : Hid _ := T
  have HX : Hid _ := hx
  clear h B T hx
  go_enter Try.func18, Try.ntmps18
  go_wp2_with fail
  generalize hX : (w.alloc (gb (.slice a1 n1 c1) (.slice a2 n2 c2) (.slice a3 n3 c3) G.next G.seed)) = X at *
  clear hX
  refine GO.mono ?_
  rintro e w1 ⟨rfl, b1⟩
  have B1 := HB.out.trans (b1.mono HB.out.size)
  have T1 := five_below HT.out b1
  have HB1 : Hid _ := B1
  have HT1 : Hid _ := T1
  clear GO HB HT b1
  cases ok : gOk G
  · have hxs : xs = [] := by
      rcases HX.out with ⟨_, e⟩ | ⟨e, _⟩
      · exact e
      · rw [ok] at e; cases e
    subst hxs
    clear B1 T1 HG HX
    go_wp2
    go_ret
    exact ⟨_, rfl, World.ownsRow_nil _ _ _ _, HB1.out⟩
  · obtain ⟨ps, HIS, hxs⟩ : ∃ ps, Hid (IsG G ps) ∧ xs = idsP G.objs ps := by
      rcases HX.out with ⟨e, _⟩ | ⟨_, ps, e, e2⟩
      · rw [ok] at e; cases e
      · exact ⟨ps, e, e2⟩
    subst hxs
    have N1 : Below w1.heap.size w1 (w1.alloc (.cells #[] 2)) := (Below.refl _ _).alloc (Nat.le_refl _) _
    have B2 := B1.trans (N1.mono B1.size)
    have T2 := five_below T1 N1
    obtain ⟨z0, z1, z2, z3, z4, _⟩ := five_cells T2
    have GP := grievingPlaces_any (graphAt_below HG.out B2) ok
    have HOW : Hid (OwnT 2 (w1.alloc (.cells #[] 2)) w.heap.size (.slice (some ⟨w1.heap.size, 0, none⟩) 0 0) []) := ownT_empty B1.size
    have HB2 : Hid _ := B2
    have HT2 : Hid _ := T2
    have pE : w1.heap.size < (w1.alloc (.cells #[] 2)).heap.size := by simp
    have hwE : w.heap.size < w1.heap.size := lt_of_block T1
    have hlen := graphAt_len HG.out
    have h200 := (gOk_len ok).1
    have hps := isG_len ok HIS.out
    have HPM : Hid (∀ p ∈ ps, p < ms.length) := fun p hp => by rw [hlen]; exact grv_lt ((HIS.out.2 p).1 hp)
    have hms : ms.length ≤ 200 := by omega
    have HLEN : Hid _ := hlen
    clear B1 T1 HB1 HT1 N1 B2 T2 HX hlen h200
    go_wp2_with fail
    generalize hX2 : (w1.alloc (.cells #[] 2)) = X2 at *
    generalize hE : w1.heap.size = E at *
    clear hX2 hE
    refine GP.mono ?_
    rintro e w3 ⟨v3, ps', rfl, his, o3, b3⟩
    obtain rfl : ps' = ps := isG_unique his HIS.out
    have B3 := HB2.out.trans (b3.mono HB2.out.size)
    have HE3 : Hid (Five w3 w.heap.size 32 (.slice a1 n1 c1) (.slice a2 n2 c2) (.slice a3 n3 c3) (.int .i64 G.next) (.int .i64 G.seed)) := five_below HT2.out b3
    have HO3 : Hid (OwnT 2 w3 w.heap.size (.slice (some ⟨E, 0, none⟩) 0 0) []) := row_below HOW.out b3
    have HPL : Hid _ := o3
    have HLB : Hid (∀ k ∈ blk v3, X2.heap.size ≤ k ∧ k < w3.heap.size) := blk_lt o3
    have HB3 : Hid _ := B3
    obtain ⟨pa, pc, hv3⟩ := ownT_slice o3
    rw [List.length_map] at hv3
    subst hv3
    obtain ⟨i0, hi0, hz0, hz1, hz2⟩ := info_parts info
    have HI0 : Hid _ := hi0
    have HZ0 : Hid _ := hz0
    have HZ1 : Hid _ := hz1
    have HZ2 : Hid _ := hz2
    clear GP HB2 HT2 HOW his o3 b3 B3 z0 z1 z2 z3 z4 hi0 hz0 hz1 hz2
    obtain ⟨ao, co, eo, _⟩ := HG.out.2.1.1
    injection eo with e1 e2 e3
    subst e1 e2 e3
    go_wp2_with fail
    go_loopw [3, 13] (fun v p wr => ∃ (k : Nat) (vv : Value), vv = v ∧ k ≤ ps'.length ∧ p = .int .i64 k ∧ OwnT 2 wr w.heap.size vv (idsP G.objs (ps'.take k)) ∧ (∀ b ∈ blk vv, w.heap.size < b ∧ b ∉ blk (.slice pa ps'.length pc)) ∧ OwnT 3 wr X2.heap.size (.slice pa ps'.length pc) (numP ps') ∧ Five wr w.heap.size 32 (.slice a1 ms.length c1) (.slice a2 n2 c2) (.slice a3 n3 c3) (.int .i64 G.next) (.int .i64 G.seed) ∧ Below w.heap.size w wr) (fun _ p _ => ps'.length - (intOf p).toNat)
    case atStart => exact ⟨0, _, rfl, Nat.zero_le _, rfl, HO3.out, fun b hb => (by simp [blk, Value.ownBlock] at hb; exact ⟨by omega, fun e => by have := (HLB.out b e).1; omega⟩), HPL.out, HE3.out, HB3.out⟩
    case round =>
      obtain ⟨k, vv, rfl, hk, rfl, hO, hbk, hP, hT, hB⟩ := hrel
      have HO : Hid _ := hO
      have HB : Hid _ := hB
      by_cases hlt : k < ps'.length
      · obtain ⟨g, rfl, cp, hgl⟩ := ownT_cell hP (i := k) (by simpa using hlt)
        have hnum : (numP ps').getD k 0 = ((ps'.getD k 0 : Nat) : Int) := by
          rw [List.getD_eq_getElem?_getD, List.getD_eq_getElem?_getD, List.getElem?_map, List.getElem?_eq_getElem hlt]
          rfl
        rw [hnum] at cp
        have hpk : ps'.getD k 0 < ms.length := HPM.out _ (by rw [List.getD_eq_getElem?_getD, List.getElem?_eq_getElem hlt]; exact List.getElem_mem hlt)
        obtain ⟨y0, _⟩ := five_cells hT
        obtain ⟨ao, co, eo, _, _, _, hco⟩ := orowAt_below HG.out.2.1.1 hB
        injection eo with e1 e2 e3
        subst e1 e3
        obtain ⟨b, off, rfl, hb, hcc⟩ := hco (by omega)
        have x0 := (hcc _ hpk).1
        have hid : (ms.getD (ps'.getD k 0) moD).id = (G.objs.getD (ps'.getD k 0) obD).id := congrArg Ob.id (graphAt_get HG.out _)
        rw [hid] at x0
        have HNX : Hid _ := idsP_next G.objs hlt
        have hpl : (idsP G.objs (ps'.take k)).length ≤ 200 := by simp; omega
        obtain ⟨va, vc, hvv⟩ := ownT_slice hO
        subst hvv
        have HOA : Hid (OwnT 2 (wr.alloc (.cells #[.int .i64 (G.objs.getD (ps'.getD k 0) obD).id] 2)) w.heap.size (.slice va (idsP G.objs (ps'.take k)).length vc) (idsP G.objs (ps'.take k))) := row_below hO ((Below.refl _ _).alloc (Nat.le_refl _) _)
        have hba : w.heap.size ≤ (wr.alloc (.cells #[.int .i64 (G.objs.getD (ps'.getD k 0) obD).id] 2)).heap.size := by have := hB.size; simp; omega
        have HNW : Hid _ := one_new wr 2 (G.objs.getD (ps'.getD k 0) obD).id
        have HSTEP : Hid (∀ (v' : Value) (w5 : World), w5.ownsRow w.heap.size 2 1 v' ((idsP G.objs (ps'.take k)).length + 1) (cellsOf (idsP G.objs (ps'.take k)) ++ [.int .i64 (G.objs.getD (ps'.getD k 0) obD).id]) → (wr.alloc (.cells #[.int .i64 (G.objs.getD (ps'.getD k 0) obD).id] 2)).grownBy w5 (Value.slice va (idsP G.objs (ps'.take k)).length vc).ownBlock → (v'.ownBlock = (Value.slice va (idsP G.objs (ps'.take k)).length vc).ownBlock ∨ v'.ownBlock = some (wr.alloc (.cells #[.int .i64 (G.objs.getD (ps'.getD k 0) obD).id] 2)).heap.size) → (∃ a n c, v' = .slice a n c) ∧ OwnT 2 w5 w.heap.size v' (idsP G.objs (ps'.take (k + 1))) ∧ (∀ b ∈ blk v', w.heap.size < b ∧ b ∉ blk (.slice (some ⟨g, 0, none⟩) ps'.length pc)) ∧ OwnT 3 w5 X2.heap.size (.slice (some ⟨g, 0, none⟩) ps'.length pc) (numP ps') ∧ Five w5 w.heap.size 32 (.slice (some ⟨b, off, none⟩) ms.length c1) (.slice a2 n2 c2) (.slice a3 n3 c3) (.int .i64 G.next) (.int .i64 G.seed) ∧ Below w.heap.size w w5) := fun v' w5 hown hgrow hat => by
          obtain ⟨on, ch, nb⟩ := app_num hO hown hgrow hat
          rw [HNX.out]
          obtain ⟨a', c', e'⟩ := ownT_slice on
          have lw := lt_of_block hT
          refine ⟨⟨_, _, _, e'⟩, on, fun b hb => ?_, row_ch hP ch (fun k hk e => (hbk k e).2 hk), five_ch hT ch (fun e => Nat.lt_irrefl _ (hbk _ e).1), hB.trans (below_ch ch hB.size fun b hb => by have := (hbk b hb).1; omega)⟩
          rcases nb b hb with e | e
          · exact hbk b e
          · exact ⟨by omega, fun e2 => by have := (blk_lt hP b e2).2; omega⟩
        clear hO hbk hP hT hB hco hcc hid e2 hnum
        generalize (G.objs.getD (ps'.getD k 0) obD).id = x at *
        generalize ps'.getD k 0 = pk at *
        generalize hqs : idsP G.objs (ps'.take k) = qs at *
        clear hqs
        go_wp2_with (refine wpList_append_own_at _ rfl (.tmp 17) (.tmp 24) 27 rfl w.heap.size 2 i0 (.int .i64 0) 1 8 Try.underlying27 HI0.out HZ0.out HZ1.out HZ2.out rfl (by decide) (.slice va qs.length vc) qs.length (cellsOf qs) rfl HOA.out ⟨wr.heap.size, 0, none⟩ 1 1 [.int .i64 x] rfl rfl HNW.out (by simp [Value.oneCell']) (by unfold maxLen; omega) (by omega) hba ?_; intro v' w5 hown hgrow _ hat; obtain ⟨⟨va', vn', vc', rfl⟩, st⟩ := HSTEP.out v' w5 hown hgrow hat; have HST : Hid _ := st; clear st hown hgrow hat)
        exact ⟨⟨k + 1, _, rfl, by omega, by go_num, HST.out⟩, by simp [intOf]; omega⟩
      · have e : k = ps'.length := by omega
        subst e
        have hfin : Own wr w.heap.size vv (idsP G.objs ps') := by
          have := HO.out
          rw [List.take_length] at this
          exact this
        have HF : Hid _ := hfin
        clear hO hbk hP hT hB hfin
        go_wp2
        go_ret
        exact ⟨_, rfl, HF.out, HB.out⟩
end Go.Proofs.Ytfajnnibkcnkaal.gr
namespace Go.Proofs.Ytfajnnibkcnkaal.gr
open Go.RowKit rows heads
set_option maxRecDepth 100000
set_option linter.unusedVariables false

set_option maxHeartbeats 4000000 in
theorem l1Has_any {w : World} {v : Value} {xs : List Int} (h : IntsAt w v xs) (hl : xs.length ≤ 1048576) (n : Int) :
    Calls Try.prog 62 #[v, .int .i64 n] w fun e w' => e = .returned (.bool (decide (n ∈ xs))) ∧ w' = w := by
  obtain ⟨a, cap, rfl, hlc, hcm, _, hc⟩ := h
  have HC : Hid _ := hc
  obtain ⟨RV, hRV⟩ : ∃ RV, decide (n ∈ xs) = RV := ⟨_, rfl⟩
  rw [hRV]
  have HRV : Hid _ := hRV
  clear hc hRV
  go_enter Try.func62, Try.ntmps62
  go_wp2_with fail
  go_loopw [5] (fun p wr => ∃ k : Nat, k ≤ xs.length ∧ p = .int .i64 k ∧ (∀ j, j < k → ¬ xs.getD j 0 = n) ∧ wr = w) (fun p _ => xs.length - (intOf p).toNat)
  case atStart => exact ⟨0, Nat.zero_le _, rfl, fun j hj => by omega, rfl⟩
  case round =>
    obtain ⟨k, hk, rfl, hne, hw⟩ := hrel
    subst hw
    by_cases hlt : k < xs.length
    · obtain ⟨b, off, rfl, hb, hcc⟩ := HC.out (by omega)
      have c0 := hcc k hlt
      have hget : xs.getD k 0 ∈ xs := by
        rw [List.getD_eq_getElem?_getD, List.getElem?_eq_getElem hlt]
        exact List.getElem_mem hlt
      by_cases hy : xs.getD k 0 = n
      · have HV : Hid (RV = true) := by show _ = _; rw [← HRV.out, decide_eq_true_eq, ← hy]; exact hget
        have hy' : (xs.getD k 0 == n) = true := by simpa using hy
        clear hcc HC hne hget hy
        generalize xs.getD k 0 = y at *
        go_wp2
        go_ret
        exact ⟨by rw [HV.out]; rfl, rfl⟩
      · have HV : Hid (∀ j, j < k + 1 → ¬ xs.getD j 0 = n) := fun j hj => by
          by_cases e : j = k
          · rw [e]; exact hy
          · exact hne j (by omega)
        have hy' : (xs.getD k 0 == n) = false := by simpa using hy
        clear hcc HC hne hget hy
        generalize xs.getD k 0 = y at *
        go_wp2
        exact ⟨⟨k + 1, by omega, by go_num, HV, by trivial⟩, by simp [intOf]; omega⟩
    · have HV : Hid (RV = false) := by
        show _ = _
        rw [← HRV.out, decide_eq_false_iff_not]
        intro hm
        obtain ⟨i, hi, e⟩ := List.getElem_of_mem hm
        refine hne i (by omega) ?_
        rw [List.getD_eq_getElem?_getD, List.getElem?_eq_getElem hi]
        exact e
      clear HC hne HRV
      go_wp2
      go_ret
      exact ⟨by rw [HV.out]; rfl, rfl⟩

theorem ints_take {w : World} {a : Option Addr} {n cap k : Nat} {xs : List Int} (h : IntsAt w (.slice a n cap) xs) (hk : k ≤ n) : IntsAt w (.slice a k cap) (xs.take k) := by
  obtain ⟨a0, cap0, e, h1, h2, h3, h4⟩ := h
  injection e with e1 e2 e3
  subst e1 e2 e3
  refine ⟨a, cap, by rw [List.length_take, Nat.min_eq_left hk], ?_, h2, h3, fun hp => ?_⟩
  · rw [List.length_take]; omega
  · rw [List.length_take] at hp
    obtain ⟨b, off, e, hb, hc⟩ := h4 (by omega)
    refine ⟨b, off, e, hb, fun i hi => ?_⟩
    rw [List.length_take] at hi
    rw [hc i (by omega), List.getD_eq_getElem?_getD, List.getD_eq_getElem?_getD, List.getElem?_take_of_lt (by omega)]
theorem ints_drop {w : World} {b off n cap k : Nat} {xs : List Int} (h : IntsAt w (.slice (some ⟨b, off, none⟩) n cap) xs) (hk : k ≤ n) {a : Option Addr} (ha : k < n → a = some ⟨b, off + k, none⟩) (hz : a = none → cap - k = 0) : IntsAt w (.slice a (n - k) (cap - k)) (xs.drop k) := by
  obtain ⟨a0, cap0, e, h1, h2, h3, h4⟩ := h
  injection e with e1 e2 e3
  subst e1 e2 e3
  refine ⟨a, cap - k, by rw [List.length_drop], ?_, Nat.le_trans (Nat.sub_le _ _) h2, hz, fun hp => ?_⟩
  · rw [List.length_drop]; omega
  · rw [List.length_drop] at hp
    obtain ⟨b', off', e, hb, hc⟩ := h4 (by omega)
    injection e with e
    injection e with e1 e2
    subst e1 e2
    refine ⟨b, off + k, ha (by omega), hb, fun i hi => ?_⟩
    rw [List.length_drop] at hi
    rw [Nat.add_assoc, hc (k + i) (by omega), List.getD_eq_getElem?_getD, List.getD_eq_getElem?_getD, List.getElem?_drop]
/-- 'append([]int64{}, list...)', how many there are under a name of its own. -/
theorem wpList_copiedN {w : World} {ops : Array Oper} {rest : List Oper} {o : Oper} {act : Act} {Q : Exit → Act → World → Prop} {a : Option Addr} {n cap : Nat} {xs : List Int}
    (h : IntsAt w (.slice a n cap) xs) (hl : n ≤ 1048576) (hgd : o.guard = none) (s x : Operand) (ho : o.op = .call { callee := .builtin .append, args := #[s, x], argTypes := #[27, 27] })
    (hs : act.eval s = .slice (some ⟨w.heap.size, 0, none⟩) 0 0) (hx : act.eval x = .slice a n cap)
    (hK : ∀ g cap' w1, w.heap.size ≤ g → w1.ownsRow w.heap.size 2 1 (.slice (some ⟨g, 0, none⟩) n cap') n (cellsOf xs) → Below w.heap.size w w1 → wpList Try.prog ops Q rest (act.put o.dst (.slice (some ⟨g, 0, none⟩) n cap')) w1) :
    wpList Try.prog ops Q (o :: rest) act (w.alloc (.cells #[] 2)) := by
  have e : xs.length = n := by
    obtain ⟨a', c', e, _⟩ := h
    injection e with _ e _
    exact e.symm
  subst e
  exact wpList_copied h hl hgd s x ho hs hx hK
end Go.Proofs.Ytfajnnibkcnkaal.gr
namespace Go.Proofs.Ytfajnnibkcnkaal.gr
open Go.RowKit rows heads
set_option maxRecDepth 100000
set_option linter.unusedVariables false

theorem own_put {w : World} {base m : Nat} {v : Value} {T D R : List Int} {n : Int} (e : R = T ++ n :: D) (hm : (T ++ n :: D).length = m) (h : w.ownsRow base 2 1 v m ((cellsOf T ++ [.int .i64 n]) ++ cellsOf D)) : Own w base v R := by
  subst e hm
  unfold Own
  have e : cellsOf (T ++ n :: D) = (cellsOf T ++ [.int .i64 n]) ++ cellsOf D := by simp [cellsOf]
  rw [e]
  exact h
theorem row_base {w : World} {base base' n : Nat} {t : TypeId} {v : Value} {cs : List Value} (h : w.ownsRow base t 1 v n cs) (hb : base' ≤ base) : w.ownsRow base' t 1 v n cs := by
  obtain ⟨h0, ⟨h1, h2⟩ | ⟨g, cap, cur, h1, hg, hh⟩⟩ := h
  · exact ⟨h0, .inl ⟨h1, h2⟩⟩
  · exact ⟨h0, .inr ⟨g, cap, cur, h1, Nat.le_trans hb hg, hh⟩⟩
theorem row_slice {w : World} {base n : Nat} {t : TypeId} {v : Value} {xs : List Value} (h : w.ownsRow base t 1 v n xs) : ∃ a c, v = .slice a n c := by
  obtain ⟨h0, ⟨h1, h2⟩ | ⟨g, cap, cur, h1, _⟩⟩ := h
  · exact ⟨none, 0, by rw [h1, h2]⟩
  · exact ⟨_, _, h1⟩
theorem num_new (W : World) (t : TypeId) (x : Int) : ∀ j u, [Value.int .i64 x][j]? = some u → (W.alloc (.cells #[.int .i64 x] t)).cell? ((⟨W.heap.size, 0, none⟩ : Addr).add j) = some u := by
  intro j u h
  match j with
  | 0 =>
    simp at h
    subst h
    simp [Addr.add]
  | j + 1 => simp at h
/-- Behind an append onto a row from B on. -/
theorem below_app {B : Nat} {w W w' : World} {v : Value} {n : Nat} {t : TypeId} {cs : List Value} (h : Below B w W) (hr : W.ownsRow B t 1 v n cs) (hB : B ≤ W.heap.size) (hg : W.grownBy w' v.ownBlock) : Below B w w' :=
  h.trans (below_ch (ch_grown hg) hB (fun k hk => (blk_lt hr k hk).1))

set_option maxHeartbeats 8000000 in
theorem l1Put_any {w : World} {base : Nat} {v : Value} {xs : List Int} (h : Own w base v xs) (hb : base ≤ w.heap.size) (hl : xs.length ≤ 1000000) (n : Int) :
    Calls Try.prog 61 #[v, .int .i64 n] w fun e w' => ∃ v', e = .returned v' ∧ Own w' base v' (putI n xs) ∧ Below w.heap.size w w' := by
  have hI := own_ints h
  have HO : Hid _ := h
  have HI : Hid _ := hI
  obtain ⟨a, cap, rfl, hlc, hcm, hnil, hc⟩ := hI
  have HC : Hid _ := hc
  have hcb : cap ≤ 9223372036854775807 := hcm
  obtain ⟨i0, hi0, hz0, hz1, hz2⟩ := info_parts info
  have HI0 : Hid _ := hi0
  have HZ0 : Hid _ := hz0
  have HZ1 : Hid _ := hz1
  have HZ2 : Hid _ := hz2
  obtain ⟨RX, hRX⟩ : ∃ RX, putI n xs = RX := ⟨_, rfl⟩
  rw [hRX]
  have HRX : Hid _ := hRX
  clear hc h hi0 hz0 hz1 hz2 hRX
  go_enter Try.func61, Try.ntmps61
  go_wp2_with fail
  go_loopw [5] (fun p wr => ∃ k : Nat, k ≤ xs.length ∧ p = .int .i64 k ∧ (∀ j, j < k → xs.getD j 0 < n) ∧ wr = w) (fun p _ => xs.length - (intOf p).toNat)
  case atStart => exact ⟨0, Nat.zero_le _, rfl, fun j hj => by omega, rfl⟩
  case round =>
    obtain ⟨k, hk, rfl, hall, hw⟩ := hrel
    subst hw
    by_cases hgo : k < xs.length ∧ xs.getD k 0 < n
    · obtain ⟨hlt, hy⟩ := hgo
      obtain ⟨b, off, rfl, _, hcc⟩ := HC.out (by omega)
      have c0 := hcc k hlt
      have HV : Hid (∀ j, j < k + 1 → xs.getD j 0 < n) := fun j hj => by
        by_cases e : j = k
        · rw [e]; exact hy
        · exact hall j (by omega)
      clear hcc HC hall
      generalize xs.getD k 0 = y at *
      go_wp2
      exact ⟨⟨k + 1, by omega, by go_num, HV, by trivial⟩, by simp [intOf]; omega⟩
    · have hput := putI_at hk hall (fun h1 h2 => hgo ⟨h1, h2⟩)
      by_cases heq : k < xs.length ∧ xs.getD k 0 = n
      · obtain ⟨hlt, hy⟩ := heq
        obtain ⟨b, off, rfl, _, hcc⟩ := HC.out (by omega)
        have c0 := hcc k hlt
        rw [hy] at c0
        rw [if_pos ⟨hlt, hy⟩] at hput
        have HF : Hid (RX = xs) := HRX.out.symm.trans hput
        have hnn : (n == n) = true := by simp
        have hn2 : ¬ n < n := by omega
        clear hcc HC hall hput hgo hy
        go_wp2
        go_ret
        exact ⟨_, rfl, by rw [HF.out]; exact HO.out, Below.refl _ _⟩
      · rw [if_neg heq] at hput
        have HF : Hid _ := HRX.out.symm.trans hput
        have hmin : min k xs.length = k := by omega
        by_cases hlt : k < xs.length
        · obtain ⟨b, off, rfl, _, hcc⟩ := HC.out (by omega)
          have c0 := hcc k hlt
          have hy1 : ¬ xs.getD k 0 < n := fun e => hgo ⟨hlt, e⟩
          have hy2 : (xs.getD k 0 == n) = false := by
            have : ¬ xs.getD k 0 = n := fun e => heq ⟨hlt, e⟩
            simpa using this
          have hck : ¬ cap = k := by omega
          have HP1 : Hid (IntsAt wr (.slice (some ⟨b, off + k, none⟩) (xs.length - k) (cap - k)) (xs.drop k)) := ints_drop HI.out hk (fun _ => rfl) (fun e => by cases e)
          have HP2 : Hid (IntsAt wr (.slice (some ⟨b, off, none⟩) k cap) (xs.take k)) := ints_take HI.out hk
          clear hcc HC hall hput hgo heq
          generalize xs.getD k 0 = y at *
          go_wp2_with (first
            | (refine wpList_copiedN (a := (some ⟨b, off + k, none⟩)) (n := (xs.length - k)) (cap := (cap - k)) (xs := (xs.drop k)) HP1.out (by omega) rfl (.tmp 34) (.tmp 37) rfl rfl rfl ?_; intro g1 cap1 w1 hg1 hO1 hB1; have HR1 : Hid (IntsAt w1 (.slice (some ⟨g1, 0, none⟩) (xs.length - k) cap1) (xs.drop k)) := own_ints (own_row hO1 (by simp)); have HP3 : Hid (IntsAt w1 (.slice (some ⟨b, off, none⟩) k cap) (xs.take k)) := intsAt_below HP2.out hB1; have HB1 : Hid _ := hB1; have sz1 := hB1.size; clear hO1 hB1 hg1)
            | (refine wpList_copiedN (a := (some ⟨b, off, none⟩)) (n := k) (cap := cap) (xs := (xs.take k)) HP3.out (by omega) rfl (.tmp 39) (.tmp 42) rfl rfl rfl ?_; intro g2 cap2 w2 hg2 hO2 hB2; have HO2 : Hid ((w2.alloc (.cells #[.int .i64 n] 2)).ownsRow w1.heap.size 2 1 (.slice (some ⟨g2, 0, none⟩) k cap2) k (cellsOf (xs.take k))) := row_below hO2 ((Below.refl _ _).alloc (Nat.le_refl _) (.cells #[.int .i64 n] 2)); have HB2 : Hid (Below w1.heap.size w1 (w2.alloc (.cells #[.int .i64 n] 2))) := hB2.alloc hB2.size _; have sz2 := hB2.size; have sz2' : w1.heap.size ≤ (w2.alloc (.cells #[.int .i64 n] 2)).heap.size := HB2.out.size; have HNW : Hid _ := num_new w2 2 n; clear hO2 hB2 hg2)
            | (refine wpList_append_own_at _ rfl (.tmp 43) (.tmp 45) 27 rfl w1.heap.size 2 i0 (.int .i64 0) 1 8 Try.underlying27 HI0.out HZ0.out HZ1.out HZ2.out rfl (by decide) (.slice (some ⟨g2, 0, none⟩) k cap2) k (cellsOf (xs.take k)) rfl HO2.out ⟨w2.heap.size, 0, none⟩ 1 1 [.int .i64 n] rfl rfl HNW.out (by simp [Value.oneCell']) (by unfold maxLen; omega) (by omega) sz2' ?_; intro v3 w3 hO3 hg3 _ hat3; obtain ⟨a3, c3, rfl⟩ := row_slice hO3; have B3 := below_app HB2.out HO2.out sz2' hg3; have HO3 : Hid (w3.ownsRow w1.heap.size 2 1 (.slice a3 (k + 1) c3) (k + 1) (cellsOf (xs.take k) ++ [.int .i64 n])) := hO3; have HB3 : Hid _ := B3; have sz3 := B3.size; have IR3 := intsAt_below HR1.out B3; have HNW3 : Hid _ := ints_news IR3; clear hO3 hg3 hat3 B3 IR3)
            | (refine wpList_append_own_at _ rfl (.tmp 46) (.tmp 47) 27 rfl w1.heap.size 2 i0 (.int .i64 0) 1 8 Try.underlying27 HI0.out HZ0.out HZ1.out HZ2.out rfl (by decide) (.slice a3 (k + 1) c3) (k + 1) (cellsOf (xs.take k) ++ [.int .i64 n]) rfl HO3.out ⟨g1, 0, none⟩ ((xs.length - k)) cap1 (cellsOf (xs.drop k)) rfl (by simp) HNW3.out (ints_oneCell _ _) (by unfold maxLen; omega) (by omega) sz3 ?_; intro v4 w4 hO4 hg4 _ hat4; obtain ⟨a4, c4, rfl⟩ := row_slice hO4; have B4 := below_app HB3.out HO3.out sz3 hg4; have HFB : Hid (Below wr.heap.size wr w4) := HB1.out.trans (B4.mono sz1); have HFO : Hid (Own w4 base (.slice a4 (k + 1 + ((xs.length - k))) c4) RX) := own_put HF.out (by simp <;> omega) (row_base hO4 (Nat.le_trans hb sz1)); clear hO4 hg4 hat4 B4))
          go_ret
          exact ⟨_, rfl, HFO.out, HFB.out⟩
        · have ek : k = xs.length := by omega
          have hd : xs.drop k = [] := List.drop_eq_nil_of_le (by omega)
          have ht : xs.take k = xs := List.take_of_length_le (by omega)
          have HFN : Hid (RX = xs ++ n :: []) := by
            have := HF.out
            rw [hd, ht] at this
            exact this
          clear HF
          have HF : Hid (RX = xs ++ n :: []) := HFN.out
          clear HFN
          have HQ1 : Hid (IntsAt wr (.slice none 0 0) []) := ⟨none, 0, rfl, Nat.le_refl _, by decide, fun _ => rfl, fun h => absurd h (by simp)⟩
          cases a with
          | none =>
            have hc0 := hnil rfl
            have hx0 : xs = [] := List.eq_nil_of_length_eq_zero (by omega)
            subst hc0 hx0
            obtain rfl : k = 0 := by simpa using ek
            have HP1 : Hid (IntsAt wr (.slice none 0 0) []) := HQ1.out
            have HP2 : Hid (IntsAt wr (.slice none 0 0) []) := HQ1.out
            clear HC hall hput hgo heq hmin hd ht ek HQ1
            go_wp2_with (first
              | (refine wpList_copiedN (a := none) (n := 0) (cap := 0) (xs := ([] : List Int)) HP1.out (by omega) rfl (.tmp 34) (.tmp 37) rfl rfl rfl ?_; intro g1 cap1 w1 hg1 hO1 hB1; have HR1 : Hid (IntsAt w1 (.slice (some ⟨g1, 0, none⟩) 0 cap1) ([] : List Int)) := own_ints (own_row hO1 (by simp)); have HP3 : Hid (IntsAt w1 (.slice none 0 0) ([] : List Int)) := intsAt_below HP2.out hB1; have HB1 : Hid _ := hB1; have sz1 := hB1.size; clear hO1 hB1 hg1)
              | (refine wpList_copiedN (a := none) (n := 0) (cap := 0) (xs := ([] : List Int)) HP3.out (by omega) rfl (.tmp 39) (.tmp 42) rfl rfl rfl ?_; intro g2 cap2 w2 hg2 hO2 hB2; have HO2 : Hid ((w2.alloc (.cells #[.int .i64 n] 2)).ownsRow w1.heap.size 2 1 (.slice (some ⟨g2, 0, none⟩) 0 cap2) 0 (cellsOf ([] : List Int))) := row_below hO2 ((Below.refl _ _).alloc (Nat.le_refl _) (.cells #[.int .i64 n] 2)); have HB2 : Hid (Below w1.heap.size w1 (w2.alloc (.cells #[.int .i64 n] 2))) := hB2.alloc hB2.size _; have sz2 := hB2.size; have sz2' : w1.heap.size ≤ (w2.alloc (.cells #[.int .i64 n] 2)).heap.size := HB2.out.size; have HNW : Hid _ := num_new w2 2 n; clear hO2 hB2 hg2)
              | (refine wpList_append_own_at _ rfl (.tmp 43) (.tmp 45) 27 rfl w1.heap.size 2 i0 (.int .i64 0) 1 8 Try.underlying27 HI0.out HZ0.out HZ1.out HZ2.out rfl (by decide) (.slice (some ⟨g2, 0, none⟩) 0 cap2) 0 (cellsOf ([] : List Int)) rfl HO2.out ⟨w2.heap.size, 0, none⟩ 1 1 [.int .i64 n] rfl rfl HNW.out (by simp [Value.oneCell']) (by unfold maxLen; omega) (by omega) sz2' ?_; intro v3 w3 hO3 hg3 _ hat3; obtain ⟨a3, c3, rfl⟩ := row_slice hO3; have B3 := below_app HB2.out HO2.out sz2' hg3; have HO3 : Hid (w3.ownsRow w1.heap.size 2 1 (.slice a3 (0 + 1) c3) (0 + 1) (cellsOf ([] : List Int) ++ [.int .i64 n])) := hO3; have HB3 : Hid _ := B3; have sz3 := B3.size; have IR3 := intsAt_below HR1.out B3; have HNW3 : Hid _ := ints_news IR3; clear hO3 hg3 hat3 B3 IR3)
              | (refine wpList_append_own_at _ rfl (.tmp 46) (.tmp 47) 27 rfl w1.heap.size 2 i0 (.int .i64 0) 1 8 Try.underlying27 HI0.out HZ0.out HZ1.out HZ2.out rfl (by decide) (.slice a3 (0 + 1) c3) (0 + 1) (cellsOf ([] : List Int) ++ [.int .i64 n]) rfl HO3.out ⟨g1, 0, none⟩ (0) cap1 (cellsOf ([] : List Int)) rfl (by simp) HNW3.out (ints_oneCell _ _) (by unfold maxLen; omega) (by omega) sz3 ?_; intro v4 w4 hO4 hg4 _ hat4; obtain ⟨a4, c4, rfl⟩ := row_slice hO4; have B4 := below_app HB3.out HO3.out sz3 hg4; have HFB : Hid (Below wr.heap.size wr w4) := HB1.out.trans (B4.mono sz1); have HFO : Hid (Own w4 base (.slice a4 (0 + 1 + (0)) c4) RX) := own_put HF.out (by simp <;> omega) (row_base hO4 (Nat.le_trans hb sz1)); clear hO4 hg4 hat4 B4))
            go_ret
            exact ⟨_, rfl, HFO.out, HFB.out⟩
          | some ad =>
            obtain ⟨g0, hg0⟩ : ∃ g0, ad = ⟨g0, 0, none⟩ := by
              obtain ⟨_, ⟨h1, _⟩ | ⟨g, c', cur, h1, _⟩⟩ := HO.out
              · cases h1
              · injection h1 with h1
                injection h1 with h1
                exact ⟨g, h1⟩
            subst hg0 ek
            have HP2 : Hid (IntsAt wr (.slice (some ⟨g0, 0, none⟩) xs.length cap) xs) := HI.out
            by_cases hck : cap = xs.length
            · subst hck
              have HP1 : Hid (IntsAt wr (.slice (some ⟨g0, 0, none⟩) 0 0) []) := ⟨_, 0, rfl, Nat.le_refl _, by decide, fun e => (by cases e), fun h => absurd h (by simp)⟩
              clear HC hall hput hgo heq hmin hd ht HQ1
              go_wp2_with (first
                | (refine wpList_copiedN (a := (some ⟨g0, 0, none⟩)) (n := 0) (cap := 0) (xs := ([] : List Int)) HP1.out (by omega) rfl (.tmp 34) (.tmp 37) rfl rfl rfl ?_; intro g1 cap1 w1 hg1 hO1 hB1; have HR1 : Hid (IntsAt w1 (.slice (some ⟨g1, 0, none⟩) 0 cap1) ([] : List Int)) := own_ints (own_row hO1 (by simp)); have HP3 : Hid (IntsAt w1 (.slice (some ⟨g0, 0, none⟩) xs.length xs.length) xs) := intsAt_below HP2.out hB1; have HB1 : Hid _ := hB1; have sz1 := hB1.size; clear hO1 hB1 hg1)
                | (refine wpList_copiedN (a := (some ⟨g0, 0, none⟩)) (n := xs.length) (cap := xs.length) (xs := xs) HP3.out (by omega) rfl (.tmp 39) (.tmp 42) rfl rfl rfl ?_; intro g2 cap2 w2 hg2 hO2 hB2; have HO2 : Hid ((w2.alloc (.cells #[.int .i64 n] 2)).ownsRow w1.heap.size 2 1 (.slice (some ⟨g2, 0, none⟩) xs.length cap2) xs.length (cellsOf xs)) := row_below hO2 ((Below.refl _ _).alloc (Nat.le_refl _) (.cells #[.int .i64 n] 2)); have HB2 : Hid (Below w1.heap.size w1 (w2.alloc (.cells #[.int .i64 n] 2))) := hB2.alloc hB2.size _; have sz2 := hB2.size; have sz2' : w1.heap.size ≤ (w2.alloc (.cells #[.int .i64 n] 2)).heap.size := HB2.out.size; have HNW : Hid _ := num_new w2 2 n; clear hO2 hB2 hg2)
                | (refine wpList_append_own_at _ rfl (.tmp 43) (.tmp 45) 27 rfl w1.heap.size 2 i0 (.int .i64 0) 1 8 Try.underlying27 HI0.out HZ0.out HZ1.out HZ2.out rfl (by decide) (.slice (some ⟨g2, 0, none⟩) xs.length cap2) xs.length (cellsOf xs) rfl HO2.out ⟨w2.heap.size, 0, none⟩ 1 1 [.int .i64 n] rfl rfl HNW.out (by simp [Value.oneCell']) (by unfold maxLen; omega) (by omega) sz2' ?_; intro v3 w3 hO3 hg3 _ hat3; obtain ⟨a3, c3, rfl⟩ := row_slice hO3; have B3 := below_app HB2.out HO2.out sz2' hg3; have HO3 : Hid (w3.ownsRow w1.heap.size 2 1 (.slice a3 (xs.length + 1) c3) (xs.length + 1) (cellsOf xs ++ [.int .i64 n])) := hO3; have HB3 : Hid _ := B3; have sz3 := B3.size; have IR3 := intsAt_below HR1.out B3; have HNW3 : Hid _ := ints_news IR3; clear hO3 hg3 hat3 B3 IR3)
                | (refine wpList_append_own_at _ rfl (.tmp 46) (.tmp 47) 27 rfl w1.heap.size 2 i0 (.int .i64 0) 1 8 Try.underlying27 HI0.out HZ0.out HZ1.out HZ2.out rfl (by decide) (.slice a3 (xs.length + 1) c3) (xs.length + 1) (cellsOf xs ++ [.int .i64 n]) rfl HO3.out ⟨g1, 0, none⟩ (0) cap1 (cellsOf ([] : List Int)) rfl (by simp) HNW3.out (ints_oneCell _ _) (by unfold maxLen; omega) (by omega) sz3 ?_; intro v4 w4 hO4 hg4 _ hat4; obtain ⟨a4, c4, rfl⟩ := row_slice hO4; have B4 := below_app HB3.out HO3.out sz3 hg4; have HFB : Hid (Below wr.heap.size wr w4) := HB1.out.trans (B4.mono sz1); have HFO : Hid (Own w4 base (.slice a4 (xs.length + 1 + (0)) c4) RX) := own_put HF.out (by simp <;> omega) (row_base hO4 (Nat.le_trans hb sz1)); clear hO4 hg4 hat4 B4))
              go_ret
              exact ⟨_, rfl, HFO.out, HFB.out⟩
            · have HP1 : Hid (IntsAt wr (.slice (some ⟨g0, xs.length, none⟩) 0 (cap - xs.length)) []) := ⟨_, _, rfl, Nat.zero_le _, Nat.le_trans (Nat.sub_le _ _) hcm, fun e => (by cases e), fun h => absurd h (by simp)⟩
              clear HC hall hput hgo heq hmin hd ht HQ1
              go_wp2_with (first
                | (refine wpList_copiedN (a := (some ⟨g0, xs.length, none⟩)) (n := 0) (cap := (cap - xs.length)) (xs := ([] : List Int)) HP1.out (by omega) rfl (.tmp 34) (.tmp 37) rfl rfl rfl ?_; intro g1 cap1 w1 hg1 hO1 hB1; have HR1 : Hid (IntsAt w1 (.slice (some ⟨g1, 0, none⟩) 0 cap1) ([] : List Int)) := own_ints (own_row hO1 (by simp)); have HP3 : Hid (IntsAt w1 (.slice (some ⟨g0, 0, none⟩) xs.length cap) xs) := intsAt_below HP2.out hB1; have HB1 : Hid _ := hB1; have sz1 := hB1.size; clear hO1 hB1 hg1)
                | (refine wpList_copiedN (a := (some ⟨g0, 0, none⟩)) (n := xs.length) (cap := cap) (xs := xs) HP3.out (by omega) rfl (.tmp 39) (.tmp 42) rfl rfl rfl ?_; intro g2 cap2 w2 hg2 hO2 hB2; have HO2 : Hid ((w2.alloc (.cells #[.int .i64 n] 2)).ownsRow w1.heap.size 2 1 (.slice (some ⟨g2, 0, none⟩) xs.length cap2) xs.length (cellsOf xs)) := row_below hO2 ((Below.refl _ _).alloc (Nat.le_refl _) (.cells #[.int .i64 n] 2)); have HB2 : Hid (Below w1.heap.size w1 (w2.alloc (.cells #[.int .i64 n] 2))) := hB2.alloc hB2.size _; have sz2 := hB2.size; have sz2' : w1.heap.size ≤ (w2.alloc (.cells #[.int .i64 n] 2)).heap.size := HB2.out.size; have HNW : Hid _ := num_new w2 2 n; clear hO2 hB2 hg2)
                | (refine wpList_append_own_at _ rfl (.tmp 43) (.tmp 45) 27 rfl w1.heap.size 2 i0 (.int .i64 0) 1 8 Try.underlying27 HI0.out HZ0.out HZ1.out HZ2.out rfl (by decide) (.slice (some ⟨g2, 0, none⟩) xs.length cap2) xs.length (cellsOf xs) rfl HO2.out ⟨w2.heap.size, 0, none⟩ 1 1 [.int .i64 n] rfl rfl HNW.out (by simp [Value.oneCell']) (by unfold maxLen; omega) (by omega) sz2' ?_; intro v3 w3 hO3 hg3 _ hat3; obtain ⟨a3, c3, rfl⟩ := row_slice hO3; have B3 := below_app HB2.out HO2.out sz2' hg3; have HO3 : Hid (w3.ownsRow w1.heap.size 2 1 (.slice a3 (xs.length + 1) c3) (xs.length + 1) (cellsOf xs ++ [.int .i64 n])) := hO3; have HB3 : Hid _ := B3; have sz3 := B3.size; have IR3 := intsAt_below HR1.out B3; have HNW3 : Hid _ := ints_news IR3; clear hO3 hg3 hat3 B3 IR3)
                | (refine wpList_append_own_at _ rfl (.tmp 46) (.tmp 47) 27 rfl w1.heap.size 2 i0 (.int .i64 0) 1 8 Try.underlying27 HI0.out HZ0.out HZ1.out HZ2.out rfl (by decide) (.slice a3 (xs.length + 1) c3) (xs.length + 1) (cellsOf xs ++ [.int .i64 n]) rfl HO3.out ⟨g1, 0, none⟩ (0) cap1 (cellsOf ([] : List Int)) rfl (by simp) HNW3.out (ints_oneCell _ _) (by unfold maxLen; omega) (by omega) sz3 ?_; intro v4 w4 hO4 hg4 _ hat4; obtain ⟨a4, c4, rfl⟩ := row_slice hO4; have B4 := below_app HB3.out HO3.out sz3 hg4; have HFB : Hid (Below wr.heap.size wr w4) := HB1.out.trans (B4.mono sz1); have HFO : Hid (Own w4 base (.slice a4 (xs.length + 1 + (0)) c4) RX) := own_put HF.out (by simp <;> omega) (row_base hO4 (Nat.le_trans hb sz1)); clear hO4 hg4 hat4 B4))
              go_ret
              exact ⟨_, rfl, HFO.out, HFB.out⟩
end Go.Proofs.Ytfajnnibkcnkaal.gr
