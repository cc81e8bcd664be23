/-
  How much a heap holds; two heaps that are the same. Chapter 10 as lists: what a word leads to, notes followed. Chapter 10 as lists: a heap made straight. Chapter 10 as the specification has it: Follow. A drawn region with a store among its operations: the store's fact lies at a slot that is none. What may change while a drawn region with a store is run: nothing of what there was but one block, which once it is as wanted stays so. Chapter 9 as the specification has it: a heap's own copy. A drawn region some of whose edges do not bind: by an invariant of what has come up, of the slots and of the world. Chapter 10 as the program has it: Follow.
-/
import Derived.Test.YtmhbdmmpmagbkaaGreatM2
import Derived.Test.YtmhbdmmpmagbkaaGreatM1
import Derived.Test.YtmhbdmmpmagbkaaGreatM5
import Derived.Test.YtmhbdmmpmagbkaaGreatCopied
import Derived.Test.YtmhbdmmpmagbkaaGreatRegionHas
import Derived.WalkMore
namespace Go.Proofs.YtmhbdmmpmagbkaaGreat.hp
open Go.RowKit rows heads words walks
set_option maxRecDepth 100000
set_option linter.unusedVariables false

set_option maxHeartbeats 2000000 in
theorem szInt64S_any {w : World} {v : Value} {xs : List Int} (h : IntsAt w v xs) (left : Nat) (hl : left ≤ 1048576) :
    Calls Tryz.prog 32 #[v, .int .i64 left] w fun e w' => e = .returned (.int .i64 (if xs.length ≤ left then (left : Int) - xs.length else -1)) ∧ w' = w := by
  obtain ⟨a, cap, rfl, hlc, hcm, _, _⟩ := h
  have hm : xs.length ≤ 9223372036854775807 := by unfold maxLen at hcm; omega
  by_cases d : xs.length ≤ left
  · rw [if_pos d]
    have d1 : ¬ (left : Int) - (xs.length : Int) < 0 := by omega
    go_enter Tryz.func32, Tryz.ntmps32
    go_wp2
    go_ret
    exact ⟨by first | rfl | go_num, rfl⟩
  · rw [if_neg d]
    have d1 : (left : Int) - (xs.length : Int) < 0 := by omega
    go_enter Tryz.func32, Tryz.ntmps32
    go_wp2
    go_ret
    exact ⟨by first | rfl | go_num, rfl⟩

set_option maxHeartbeats 4000000 in
theorem szHeap_any {w : World} {vr vo vm vs : Value} {H : Hp} (h : HpAt w vr vo vm vs H) (left : Nat) (hleft : left ≤ 1048576) :
    Calls Tryz.prog 9 #[hpv H vr vo vm vs, .int .i64 left] w fun e w' => e = .returned (.int .i64 (if hpSize H ≤ left then (left : Int) - hpSize H else -1)) ∧ Below w.heap.size w w' := by
  obtain ⟨a1, c1, a2, c2, a3, c3, a4, c4, e1, e2, e3, e4⟩ := hpAt_slices h
  subst e1 e2 e3 e4
  have B : Below w.heap.size w (w.alloc (.cells #[.int .i64 H.half, .int .i64 H.old, .slice a1 H.row.length c1, .int .i64 H.side, .int .i64 H.top, .slice a2 H.roots.length c2, .slice a3 H.mourned.length c3, .slice a4 H.seen.length c4, .int .i64 H.seed] 24)) := (Below.refl _ w).alloc (Nat.le_refl _) _
  obtain ⟨⟨k0, k1, k2, k3, k4⟩, ⟨k5, k6, k7, k8⟩, _⟩ := nine_cells (nine_mk w 24 (.int .i64 H.half) (.int .i64 H.old) (.slice a1 H.row.length c1) (.int .i64 H.side) (.int .i64 H.top) (.slice a2 H.roots.length c2) (.slice a3 H.mourned.length c3) (.slice a4 H.seen.length c4) (.int .i64 H.seed))
  obtain ⟨h1, h2, h3, h4⟩ := hpAt_below h B
  obtain ⟨RV, hRV⟩ : ∃ RV : Int, (if hpSize H ≤ left then (left : Int) - hpSize H else -1) = RV := ⟨_, rfl⟩
  rw [hRV]
  have HRV : Hid _ := hRV
  have HB : Hid _ := B
  have S1 := szInt64S_any h1 left hleft
  clear B hRV h h1
  by_cases d1 : H.row.length ≤ left
  case neg =>
    rw [if_neg d1] at S1
    have ER : Hid (RV = -1) := by show RV = _; rw [← HRV.out, if_neg (by unfold hpSize; omega)]
    clear HRV h2 h3 h4
    go_enter Tryz.func9, Tryz.ntmps9
    go_wp2_with (go_at_call 32; refine S1.mono ?_; clear S1; rintro e w3 ⟨rfl, hw3⟩; rw [hw3]; clear hw3 w3)
    go_ret
    exact ⟨by rw [ER.out]; rfl, HB⟩
  rw [if_pos d1] at S1
  obtain ⟨l1, hl1⟩ : ∃ l1 : Nat, (left : Int) - (H.row.length : Int) = (l1 : Int) := ⟨left - H.row.length, by omega⟩
  rw [hl1] at S1
  have p1 : ¬ (l1 : Int) < 0 := by omega
  have S2 := szInt64S_any h2 l1 (by omega)
  clear h2
  by_cases d2 : H.roots.length ≤ l1
  case neg =>
    rw [if_neg d2] at S2
    have ER : Hid (RV = -1) := by show RV = _; rw [← HRV.out, if_neg (by unfold hpSize; omega)]
    clear HRV h3 h4 hl1
    go_enter Tryz.func9, Tryz.ntmps9
    go_wp2_with (first
      | (have hh := S1; clear hh; go_at_call 32; refine S1.mono ?_; clear S1; rintro e w3 ⟨rfl, hw3⟩; rw [hw3]; clear hw3 w3)
      | (have hh := S2; clear hh; go_at_call 32; refine S2.mono ?_; clear S2; rintro e w3 ⟨rfl, hw3⟩; rw [hw3]; clear hw3 w3))
    go_ret
    exact ⟨by rw [ER.out]; rfl, HB⟩
  rw [if_pos d2] at S2
  obtain ⟨l2, hl2⟩ : ∃ l2 : Nat, (l1 : Int) - (H.roots.length : Int) = (l2 : Int) := ⟨l1 - H.roots.length, by omega⟩
  rw [hl2] at S2
  have p2 : ¬ (l2 : Int) < 0 := by omega
  have S3 := szInt64S_any h3 l2 (by omega)
  clear h3
  by_cases d3 : H.mourned.length ≤ l2
  case neg =>
    rw [if_neg d3] at S3
    have ER : Hid (RV = -1) := by show RV = _; rw [← HRV.out, if_neg (by unfold hpSize; omega)]
    clear HRV h4 hl1 hl2
    go_enter Tryz.func9, Tryz.ntmps9
    go_wp2_with (first
      | (have hh := S1; clear hh; go_at_call 32; refine S1.mono ?_; clear S1; rintro e w3 ⟨rfl, hw3⟩; rw [hw3]; clear hw3 w3)
      | (have hh := S2; clear hh; go_at_call 32; refine S2.mono ?_; clear S2; rintro e w3 ⟨rfl, hw3⟩; rw [hw3]; clear hw3 w3)
      | (have hh := S3; clear hh; go_at_call 32; refine S3.mono ?_; clear S3; rintro e w3 ⟨rfl, hw3⟩; rw [hw3]; clear hw3 w3))
    go_ret
    exact ⟨by rw [ER.out]; rfl, HB⟩
  rw [if_pos d3] at S3
  obtain ⟨l3, hl3⟩ : ∃ l3 : Nat, (l2 : Int) - (H.mourned.length : Int) = (l3 : Int) := ⟨l2 - H.mourned.length, by omega⟩
  rw [hl3] at S3
  have p3 : ¬ (l3 : Int) < 0 := by omega
  have S4 := szInt64S_any h4 l3 (by omega)
  clear h4
  by_cases d4 : H.seen.length ≤ l3
  · rw [if_pos d4] at S4
    obtain ⟨l4, hl4⟩ : ∃ l4 : Nat, (l3 : Int) - (H.seen.length : Int) = (l4 : Int) := ⟨l3 - H.seen.length, by omega⟩
    rw [hl4] at S4
    have p4 : ¬ (l4 : Int) < 0 := by omega
    have ER : Hid (RV = (l4 : Int)) := by show RV = _; rw [← HRV.out, if_pos (by unfold hpSize; omega)]; unfold hpSize; omega
    clear HRV hl1 hl2 hl3 hl4
    go_enter Tryz.func9, Tryz.ntmps9
    go_wp2_with (first
      | (have hh := S1; clear hh; go_at_call 32; refine S1.mono ?_; clear S1; rintro e w3 ⟨rfl, hw3⟩; rw [hw3]; clear hw3 w3)
      | (have hh := S2; clear hh; go_at_call 32; refine S2.mono ?_; clear S2; rintro e w3 ⟨rfl, hw3⟩; rw [hw3]; clear hw3 w3)
      | (have hh := S3; clear hh; go_at_call 32; refine S3.mono ?_; clear S3; rintro e w3 ⟨rfl, hw3⟩; rw [hw3]; clear hw3 w3)
      | (have hh := S4; clear hh; go_at_call 32; refine S4.mono ?_; clear S4; rintro e w3 ⟨rfl, hw3⟩; rw [hw3]; clear hw3 w3))
    go_ret
    exact ⟨by rw [ER.out]; rfl, HB⟩
  · rw [if_neg d4] at S4
    have ER : Hid (RV = -1) := by show RV = _; rw [← HRV.out, if_neg (by unfold hpSize; omega)]
    clear HRV hl1 hl2 hl3
    go_enter Tryz.func9, Tryz.ntmps9
    go_wp2_with (first
      | (have hh := S1; clear hh; go_at_call 32; refine S1.mono ?_; clear S1; rintro e w3 ⟨rfl, hw3⟩; rw [hw3]; clear hw3 w3)
      | (have hh := S2; clear hh; go_at_call 32; refine S2.mono ?_; clear S2; rintro e w3 ⟨rfl, hw3⟩; rw [hw3]; clear hw3 w3)
      | (have hh := S3; clear hh; go_at_call 32; refine S3.mono ?_; clear S3; rintro e w3 ⟨rfl, hw3⟩; rw [hw3]; clear hw3 w3)
      | (have hh := S4; clear hh; go_at_call 32; refine S4.mono ?_; clear S4; rintro e w3 ⟨rfl, hw3⟩; rw [hw3]; clear hw3 w3))
    go_ret
    exact ⟨by rw [ER.out]; rfl, HB⟩

set_option maxHeartbeats 4000000 in
theorem eqHeap_same {w : World} {vr vo vm vs ur uo um us : Value} {H : Hp} (h : HpAt w vr vo vm vs H) (h' : HpAt w ur uo um us H) (hs : hpSize H ≤ 1048576) :
    Calls Tryz.prog 14 #[hpv H vr vo vm vs, hpv H ur uo um us] w fun e w' => e = .returned (.bool true) ∧ Below w.heap.size w w' := by
  obtain ⟨l1, l2, l3, l4⟩ := hp_parts hs
  have B : Below w.heap.size w ((w.alloc (hpb H vr vo vm vs)).alloc (hpb H ur uo um us)) := ((Below.refl _ w).alloc (Nat.le_refl _) _).alloc (by simp) _
  have T1 : Nine ((w.alloc (hpb H vr vo vm vs)).alloc (hpb H ur uo um us)) w.heap.size 31 (.int .i64 H.half) (.int .i64 H.old) vr (.int .i64 H.side) (.int .i64 H.top) vo vm vs (.int .i64 H.seed) := nine_below (nine_mk w _ _ _ _ _ _ _ _ _ _) ((Below.refl _ _).alloc (Nat.le_refl _) _)
  have T2 : Nine ((w.alloc (hpb H vr vo vm vs)).alloc (hpb H ur uo um us)) (w.heap.size + 1) 31 (.int .i64 H.half) (.int .i64 H.old) ur (.int .i64 H.side) (.int .i64 H.top) uo um us (.int .i64 H.seed) := by
    have := nine_mk (w.alloc (hpb H vr vo vm vs)) 31 (.int .i64 H.half) (.int .i64 H.old) ur (.int .i64 H.side) (.int .i64 H.top) uo um us (.int .i64 H.seed)
    simpa using this
  have A1 := hpAt_below h B
  have A2 := hpAt_below h' B
  obtain ⟨a1, c1, a2, c2, a3, c3, a4, c4, e1, e2, e3, e4⟩ := hpAt_slices h
  obtain ⟨b1, d1, b2, d2, b3, d3, b4, d4, f1, f2, f3, f4⟩ := hpAt_slices h'
  subst e1 e2 e3 e4 f1 f2 f3 f4
  have i1 : (H.half != H.half) = false := by simp
  have i2 : (H.old != H.old) = false := by simp
  have i3 : (H.side != H.side) = false := by simp
  have i4 : (H.top != H.top) = false := by simp
  have i5 : (H.seed != H.seed) = false := by simp
  have E1 := eqInt64S_any A1.1 A2.1 l1
  have E2 := fun n => eqInt64S_any (intsAt_drewN (n := n) A1.2.1) (intsAt_drewN (n := n) A2.2.1) l2
  have E3 := fun n => eqInt64S_any (intsAt_drewN (n := n) A1.2.2.1) (intsAt_drewN (n := n) A2.2.2.1) l3
  have E4 := fun n => eqInt64S_any (intsAt_drewN (n := n) A1.2.2.2) (intsAt_drewN (n := n) A2.2.2.2) l4
  rw [decide_eq_true (rfl : H.row = H.row)] at E1
  simp only [decide_true] at E2 E3 E4
  obtain ⟨⟨k0, k1, k2, k3, k4⟩, ⟨k5, k6, k7, k8⟩, _⟩ := nine_cells T1
  obtain ⟨⟨j0, j1, j2, j3, j4⟩, ⟨j5, j6, j7, j8⟩, _⟩ := nine_cells T2
  have HB : Hid _ := B
  clear B h h' T1 T2 A1 A2
  go_enter Tryz.func14, Tryz.ntmps14
  go_wp2_with fail
  generalize hX : ((w.alloc (hpb H (.slice a1 H.row.length c1) (.slice a2 H.roots.length c2) (.slice a3 H.mourned.length c3) (.slice a4 H.seen.length c4))).alloc (hpb H (.slice b1 H.row.length d1) (.slice b2 H.roots.length d2) (.slice b3 H.mourned.length d3) (.slice b4 H.seen.length d4))) = X at *
  clear hX
  refine E1.mono ?_
  clear E1
  rintro e w3 ⟨rfl, n1, hw3⟩
  rw [hw3]
  clear hw3 w3
  go_wp2_with (first
    | (have hh := E2; clear hh; go_at_call 25; refine (E2 _).mono ?_; clear E2; rintro e w3 ⟨rfl, n2, hw3⟩; rw [hw3]; clear hw3 w3)
    | (have hh := E3; clear hh; go_at_call 25; refine (E3 _).mono ?_; clear E3; rintro e w3 ⟨rfl, n3, hw3⟩; rw [hw3]; clear hw3 w3)
    | (have hh := E4; clear hh; go_at_call 25; refine (E4 _).mono ?_; clear E4; rintro e w3 ⟨rfl, n4, hw3⟩; rw [hw3]; clear hw3 w3))
  go_ret
  exact ⟨rfl, ⟨HB.out.os, HB.out.tape, HB.out.output, HB.out.size, HB.out.block⟩⟩
end Go.Proofs.YtmhbdmmpmagbkaaGreat.hp
namespace Go.Proofs.YtmhbdmmpmagbkaaGreat.hp
open Go.RowKit rows heads words walks
set_option maxRecDepth 100000
set_option linter.unusedVariables false

/-- Does a word lead to a note? -/
def toNote (H : Hp) (x : Int) : Bool := isA x && ntH H (av x)
/-- What stands there. -/
def noteW (H : Hp) (x : Int) : Int := H.row.getD ((av x).toNat + 1) 0
def folL (H : Hp) : Nat → Int → Int
  | 0, x => x
  | n + 1, x => if toNote H x = true then folL H n (noteW H x) else x
def rkL (H : Hp) : Nat → Int → Nat
  | 0, _ => 0
  | n + 1, x => if toNote H x = true then rkL H n (noteW H x) + 1 else 0
/-- The word, followed. -/
def fol (H : Hp) (x : Int) : Int := folL H 1000 x
/-- How many notes are met. -/
def rk (H : Hp) (x : Int) : Nat := rkL H 1000 x
theorem fol_stop {H : Hp} {x : Int} (h : toNote H x = false) : fol H x = x := by
  unfold fol folL
  rw [if_neg (by rw [h]; decide)]
theorem nx_note (H : Hp) (x : Int) : nxH H (av x) = av (noteW H x) := rfl
theorem folL_more (H : Hp) : ∀ (n : Nat) (x : Int), (isA x = true → ends (ntH H) (nxH H) n (av x) = true) → folL H n x = folL H (n + 1) x ∧ rkL H n x = rkL H (n + 1) x
  | 0, x, h => by
    have : toNote H x = false := by
      unfold toNote
      cases e : isA x
      · rfl
      · cases h e
    unfold folL rkL
    rw [if_neg (by rw [this]; decide), if_neg (by rw [this]; decide)]
    exact ⟨rfl, rfl⟩
  | n + 1, x, h => by
    cases e : toNote H x
    · have e0 : ¬ toNote H x = true := by rw [e]; decide
      constructor
      · rw [folL, if_neg e0, folL, if_neg e0]
      · rw [rkL, if_neg e0, rkL, if_neg e0]
    · have e' := e
      unfold toNote at e'
      rw [Bool.and_eq_true] at e'
      have h1 := h e'.1
      unfold ends at h1
      rw [if_pos e'.2, nx_note] at h1
      obtain ⟨i1, i2⟩ := folL_more H n (noteW H x) (fun _ => h1)
      constructor
      · rw [folL, if_pos e, folL, if_pos e, i1]
      · rw [rkL, if_pos e, rkL, if_pos e, i2]
/-- What is so of a heap that is right but for what is seen. -/
structure Rt (H : Hp) (ps : List Int) : Prop where
  some' : placesR H = some ps
  plc : ∀ p ∈ ps, ∃ j : Nat, p = j ∧ j < H.row.length ∧ chunk H.row j ≠ 0
  notes : Notes H ps
  fin : ∀ p ∈ ps, ends (ntH H) (nxH H) 1000 p = true
  slots : slotsOk H ps = true
  roots : H.roots.all (wordIn H ps) = true
  mourned : mournOk H ps = true
theorem rt_of {H : Hp} (h : rightB H = true) : ∃ ps, Rt H ps := by
  obtain ⟨ps, hps⟩ := right_some h
  unfold rightB at h
  rw [hps] at h
  simp only [Bool.and_eq_true] at h
  obtain ⟨⟨⟨h1, h2⟩, h3⟩, h4⟩ := h
  obtain ⟨hp, hl⟩ := places_plc hps
  have hN := notes_of hp h1
  refine ⟨ps, hps, hp, hN, fun p hpp => ?_, h1, h3, h4⟩
  exact (fins_iff (notes_next hN) hpp (by omega)).2 ((endsOk_is hN).1 h2 p hpp)
theorem Rt.len {H : Hp} {ps : List Int} (R : Rt H ps) : H.row.length ≤ 1000 := by
  have N := (places_facts R.some').1
  have := N.len
  have := N.half1
  have := N.old1
  omega
theorem ok_right {H : Hp} (h : heapOk H = true) : rightB H = true ∧ H.seen = seenL H := by
  unfold heapOk at h
  rw [Bool.and_eq_true, decide_eq_true_eq] at h
  exact h
theorem word_place {H : Hp} {ps : List Int} {x : Int} (h : wordIn H ps x = true) (hA : isA x = true) : av x ∈ ps ∧ uF (H.row.getD (av x).toNat 0) ≠ 6 := by
  unfold wordIn at h
  rw [hA] at h
  simpa using (by simpa using h : isW x = true ∧ _).2
theorem Rt.note {H : Hp} {ps : List Int} (R : Rt H ps) {x : Int} (hx : wordIn H ps x = true) (hn : toNote H x = true) : (av x).toNat + 1 < H.row.length ∧ wordIn H ps (noteW H x) = true ∧ isA (noteW H x) = true ∧ fol H x = fol H (noteW H x) ∧ rk H (noteW H x) < rk H x := by
  have hn' := hn
  unfold toNote at hn'
  rw [Bool.and_eq_true] at hn'
  obtain ⟨hA, hnt⟩ := hn'
  obtain ⟨hm, _⟩ := word_place hx hA
  have h7 : uF (H.row.getD (av x).toNat 0) = 7 := by simpa [ntH] using hnt
  obtain ⟨n1, n2, n3⟩ := R.notes _ hm h7
  have hf := R.fin _ hm
  have hf' : ends (ntH H) (nxH H) 999 (av (noteW H x)) = true := by
    unfold ends at hf
    rw [if_pos hnt, nx_note] at hf
    exact hf
  obtain ⟨i1, i2⟩ := folL_more H 999 (noteW H x) (fun _ => hf')
  refine ⟨n1, ?_, n2, ?_, ?_⟩
  · have hs := R.slots
    unfold slotsOk at hs
    rw [List.all_eq_true] at hs
    have h1 := hs _ hm
    rw [List.all_eq_true] at h1
    refine h1 _ ?_
    unfold slotsOf cnS noteW
    rw [if_pos h7, List.mem_iff_getElem?]
    refine ⟨0, ?_⟩
    rw [List.getElem?_take, if_pos (by decide), List.getElem?_drop, Nat.add_zero, List.getElem?_eq_getElem n1, List.getD_eq_getElem?_getD, List.getElem?_eq_getElem n1]; rfl
  · show folL H 1000 x = folL H 1000 (noteW H x)
    rw [show (1000 : Nat) = 999 + 1 from rfl, folL, if_pos hn, i1]
  · show rkL H 1000 (noteW H x) < rkL H 1000 x
    rw [show rkL H 1000 x = rkL H 999 (noteW H x) + 1 by rw [show (1000 : Nat) = 999 + 1 from rfl, rkL, if_pos hn], i2]
    exact Nat.lt_succ_self _
/-- What is followed may stand there, too, and leads to no note. -/
theorem Rt.fol {H : Hp} {ps : List Int} (R : Rt H ps) : ∀ (n : Nat) (x : Int), rk H x ≤ n → wordIn H ps x = true → wordIn H ps (fol H x) = true ∧ toNote H (hp.fol H x) = false
  | n, x, hr, hx => by
    cases e : toNote H x
    · rw [fol_stop e]; exact ⟨hx, e⟩
    · obtain ⟨_, h2, _, h4, h5⟩ := R.note hx e
      rw [h4]
      match n, hr with
      | 0, hr => omega
      | n + 1, hr => exact R.fol n _ (by omega) h2
theorem Rt.followed {H : Hp} {ps : List Int} (R : Rt H ps) {x : Int} (hx : wordIn H ps x = true) : wordIn H ps (hp.fol H x) = true ∧ toNote H (hp.fol H x) = false := R.fol _ x (Nat.le_refl _) hx
/-- The answer of Follow. -/
def folOk (H : Hp) (x : Int) : Int := if (heapOk H && wordIn H ((placesR H).getD []) x) = true then fol H x else 2
end Go.Proofs.YtmhbdmmpmagbkaaGreat.hp
namespace Go.Proofs.YtmhbdmmpmagbkaaGreat.hp
open Go.RowKit rows heads words walks
set_option maxRecDepth 100000
set_option linter.unusedVariables false

/-- These words from there on. -/
def putR (xs : List Int) (k : Nat) (ys : List Int) : List Int := xs.take k ++ ys ++ xs.drop (k + ys.length)
theorem putR_len {xs : List Int} {k : Nat} {ys : List Int} (h : k + ys.length ≤ xs.length) : (putR xs k ys).length = xs.length := by simp [putR]; omega
theorem putR_get {xs : List Int} {k : Nat} {ys : List Int} (h : k + ys.length ≤ xs.length) (q : Nat) : (putR xs k ys).getD q 0 = if k ≤ q ∧ q < k + ys.length then ys.getD (q - k) 0 else xs.getD q 0 := by
  unfold putR
  simp only [List.getD_eq_getElem?_getD]
  by_cases h1 : q < k
  · rw [if_neg (by omega), List.append_assoc, List.getElem?_append_left (by simp; omega), List.getElem?_take, if_pos h1]
  · by_cases h2 : q < k + ys.length
    · rw [if_pos ⟨by omega, h2⟩, List.getElem?_append_left (by simp; omega), List.getElem?_append_right (by simp; omega)]
      congr 2
      simp
      omega
    · rw [if_neg (by omega), List.getElem?_append_right (by simp; omega), List.getElem?_drop]
      congr 2
      simp
      omega
theorem putR_nil (xs : List Int) (k : Nat) : putR xs k [] = xs := by simp [putR]
theorem putR_snoc {xs : List Int} {k : Nat} {ys : List Int} {y : Int} (h : k + ys.length < xs.length) : (putR xs k ys).set (k + ys.length) y = putR xs k (ys ++ [y]) := by
  unfold putR
  rw [List.set_append_right _ _ (by simp; omega)]
  rw [show k + ys.length - (xs.take k ++ ys).length = 0 by simp; omega, List.drop_eq_getElem_cons h, List.set_cons_zero]
  simp [Nat.add_assoc]
/-- Is it a word of an object that is no note? -/
def covP (H : Hp) (p : Int) (q : Nat) : Bool := !(ntH H p) && decide (p.toNat + 1 ≤ q) && decide (q < p.toNat + 1 + (slotsOf H p).length)
def cov (H : Hp) (os : List Int) (q : Nat) : Bool := os.any (fun p => covP H p q)
/-- One object made straight. -/
def strAt (H : Hp) (xs : List Int) (p : Int) : List Int := if ntH H p = true then xs else putR xs (p.toNat + 1) ((slotsOf H p).map (fol H))
def strRow (H : Hp) (os : List Int) : List Int := os.foldl (strAt H) H.row
theorem strRow_next {H : Hp} {os : List Int} {k : Nat} (hk : k < os.length) : strRow H (os.take (k + 1)) = strAt H (strRow H (os.take k)) (os.getD k 0) := by
  unfold strRow
  rw [List.take_add_one, List.foldl_append, List.getElem?_eq_getElem hk, List.getD_eq_getElem?_getD, List.getElem?_eq_getElem hk]
  rfl
/-- A row that differs at such words alone. -/
structure Dif (H : Hp) (os : List Int) (xs : List Int) : Prop where
  len : xs.length = H.row.length
  same : ∀ q, cov H os q = false → xs.getD q 0 = H.row.getD q 0
/-- Chunks that do not lie over one another. -/
structure Apart (H : Hp) (ps : List Int) : Prop where
  pair : ps.Pairwise (fun p q => p + chunk H.row p.toNat ≤ q)
  nat : ∀ p ∈ ps, ∃ j : Nat, p = j ∧ chunk H.row j ≠ 0 ∧ j < H.row.length
theorem walkL_apart (xs : List Int) (t : Nat) : ∀ (n k : Nat) (l : List Int), walkL xs t n k = some l → l.Pairwise (fun p q => p + chunk xs p.toNat ≤ q) ∧ ∀ p ∈ l, (k : Int) ≤ p ∧ p + chunk xs p.toNat ≤ t := by
  intro n
  induction n with
  | zero =>
    intro k l h
    unfold walkL at h
    split at h
    · cases h
    · cases h; exact ⟨List.Pairwise.nil, fun x hx => by simp at hx⟩
  | succ n ih =>
    intro k l h
    by_cases h1 : k < t
    · by_cases hb : chunk xs k = 0 ∨ (k : Int) + chunk xs k > t
      · rw [walkL_bad _ _ _ _ h1 hb] at h; cases h
      · rw [walkL_step _ _ _ _ h1 hb] at h
        obtain ⟨l', hl', rfl⟩ := Option.map_eq_some_iff.1 h
        obtain ⟨i1, i2⟩ := ih _ _ hl'
        have := chunk_bounds xs k
        refine ⟨List.Pairwise.cons (fun x hx => ?_) i1, fun x hx => ?_⟩
        · have := (i2 x hx).1
          rw [Int.toNat_natCast]
          omega
        · rcases List.mem_cons.1 hx with rfl | hx
          · rw [Int.toNat_natCast]; omega
          · have := i2 x hx; omega
    · rw [walkL_end _ _ _ _ h1] at h
      cases h; exact ⟨List.Pairwise.nil, fun x hx => by simp at hx⟩
theorem apart_of {H : Hp} {ps : List Int} (h : placesR H = some ps) : Apart H ps := by
  have hp := (places_plc h).1
  obtain ⟨N, _, r, u, hr, hu, _, rfl⟩ := places_facts h
  obtain ⟨p1, m1⟩ := walkL_apart _ _ _ _ _ hr
  obtain ⟨p2, m2⟩ := walkL_apart _ _ _ _ _ hu
  have := N.room
  refine ⟨List.pairwise_append.2 ⟨p1, p2, fun a ha b hb => ?_⟩, fun p hpp => ?_⟩
  · have q1 := (m1 a ha).2
    have q2 := (m2 b hb).1
    omega
  · obtain ⟨j, a, b, c⟩ := hp p hpp
    exact ⟨j, a, c, b⟩
theorem Apart.two {H : Hp} {ps : List Int} (h : Apart H ps) {i j : Nat} (hi : (i : Int) ∈ ps) (hj : (j : Int) ∈ ps) (hlt : i < j) : (i : Int) + chunk H.row i ≤ j := by
  obtain ⟨a, ha, ea⟩ := List.getElem_of_mem hi
  obtain ⟨b, hb, eb⟩ := List.getElem_of_mem hj
  have hP := List.pairwise_iff_getElem.1 h.pair
  rcases Nat.lt_trichotomy a b with q | q | q
  · have := hP a b ha hb q
    rw [ea, eb, Int.toNat_natCast] at this
    exact this
  · subst q
    rw [ea] at eb
    omega
  · have := hP b a hb ha q
    rw [ea, eb, Int.toNat_natCast] at this
    have c := chunk_bounds H.row j
    omega
theorem slots_end {H : Hp} {j : Nat} (hc : chunk H.row j ≠ 0) (h6 : uF (H.row.getD j 0) ≠ 6) : (j : Int) + 1 + (slotsOf H j).length ≤ j + chunk H.row j := by
  have hb := chunk_bounds H.row j
  rw [slots_len hc]
  have e : chunk H.row j = sz (uS (H.row.getD j 0)) := by
    unfold chunk at hc ⊢
    by_cases h0 : (ok (H.row.getD j 0) && !uM (H.row.getD j 0)) = true
    · rw [if_pos h0, if_neg h6] at hc ⊢
      by_cases h3 : (j : Int) + sz (uS (H.row.getD j 0)) ≤ H.row.length ∧ (uF (H.row.getD j 0) = 7 → isA (H.row.getD (j + 1) 0) = true)
      · rw [if_pos h3]
      · rw [if_neg h3] at hc; exact absurd rfl hc
    · rw [if_neg h0] at hc; exact absurd rfl hc
  obtain ⟨s1, s2⟩ := uS_bounds (H.row.getD j 0)
  have sb := sz_bounds s1 s2
  unfold cnS
  by_cases h7 : uF (H.row.getD j 0) = 7
  · rw [if_pos h7]; omega
  · rw [if_neg h7, if_neg h6]; omega
theorem objL_mem {H : Hp} {ps : List Int} {p : Int} (h : p ∈ objL H ps) : p ∈ ps ∧ uF (H.row.getD p.toNat 0) ≠ 6 := by
  obtain ⟨a, b⟩ := List.mem_filter.1 h
  refine ⟨a, ?_⟩
  unfold isO at b
  simpa using b
/-- Heads lie at no such word, nor do the second words of notes and of what is free. -/
theorem cov_head {H : Hp} {ps os : List Int} (hA : Apart H ps) (ho : ∀ p ∈ os, p ∈ objL H ps) {j : Nat} (hj : (j : Int) ∈ ps) : cov H os j = false := by
  unfold cov
  rw [List.any_eq_false]
  intro p hp hc
  obtain ⟨hpp, h6⟩ := objL_mem (ho p hp)
  obtain ⟨i, rfl, hci, _⟩ := hA.nat p hpp
  rw [Int.toNat_natCast] at h6
  simp only [covP, Bool.and_eq_true, decide_eq_true_eq, Int.toNat_natCast] at hc
  have e := slots_end hci h6
  have := hA.two hpp hj (by omega)
  omega
theorem cov_second {H : Hp} {ps os : List Int} (hA : Apart H ps) (ho : ∀ p ∈ os, p ∈ objL H ps) {j : Nat} (hj : (j : Int) ∈ ps) (h : uF (H.row.getD j 0) = 7 ∨ uF (H.row.getD j 0) = 6) : cov H os (j + 1) = false := by
  unfold cov
  rw [List.any_eq_false]
  intro p hp hc
  obtain ⟨hpp, h6⟩ := objL_mem (ho p hp)
  obtain ⟨i, rfl, hci, _⟩ := hA.nat p hpp
  rw [Int.toNat_natCast] at h6
  simp only [covP, Bool.and_eq_true, decide_eq_true_eq, Int.toNat_natCast, Bool.not_eq_true'] at hc
  have e := slots_end hci h6
  obtain ⟨⟨c1, c2⟩, c3⟩ := hc
  rcases Nat.lt_trichotomy i j with q | q | q
  · have := hA.two hpp hj q
    omega
  · subst q
    unfold ntH at c1
    rw [Int.toNat_natCast] at c1
    rcases h with h | h
    · rw [h] at c1; cases c1
    · exact h6 h
  · omega
/-- What following looks at is the same in such a row. -/
structure Sim (H H' : Hp) (ps : List Int) : Prop where
  len : H'.row.length = H.row.length
  head : ∀ j : Nat, (j : Int) ∈ ps → H'.row.getD j 0 = H.row.getD j 0
  second : ∀ j : Nat, (j : Int) ∈ ps → (uF (H.row.getD j 0) = 7 ∨ uF (H.row.getD j 0) = 6) → H'.row.getD (j + 1) 0 = H.row.getD (j + 1) 0
theorem sim_of {H H' : Hp} {ps os : List Int} (hA : Apart H ps) (ho : ∀ p ∈ os, p ∈ objL H ps) (hD : Dif H os H'.row) : Sim H H' ps :=
  ⟨hD.len, fun j hj => hD.same _ (cov_head hA ho hj), fun j hj h => hD.same _ (cov_second hA ho hj h)⟩
theorem cov_more {H : Hp} {os os' : List Int} (h : ∀ p ∈ os, p ∈ os') {q : Nat} (hc : cov H os' q = false) : cov H os q = false := by
  unfold cov at hc ⊢
  rw [List.any_eq_false] at hc ⊢
  exact fun p hp => hc p (h p hp)
theorem dif_put {H : Hp} {os : List Int} {xs : List Int} (hD : Dif H os xs) {p : Int} (hp : p ∈ os) (hn : ntH H p = false) {ys : List Int} (hy : ys.length ≤ (slotsOf H p).length) (hl : p.toNat + 1 + (slotsOf H p).length ≤ H.row.length) : Dif H os (putR xs (p.toNat + 1) ys) := by
  have hl' : p.toNat + 1 + ys.length ≤ xs.length := by rw [hD.len]; omega
  refine ⟨(putR_len hl').trans hD.len, fun q hq => ?_⟩
  rw [putR_get hl', if_neg, hD.same q hq]
  rintro ⟨q1, q2⟩
  have : cov H os q = true := by
    unfold cov
    rw [List.any_eq_true]
    refine ⟨p, hp, ?_⟩
    simp only [covP, hn, Bool.not_false, Bool.true_and, Bool.and_eq_true, decide_eq_true_eq]
    omega
  rw [this] at hq
  cases hq
theorem dif_refl (H : Hp) (os : List Int) : Dif H os H.row := ⟨rfl, fun _ _ => rfl⟩
theorem obj_len {H : Hp} {ps : List Int} (hA : Apart H ps) {p : Int} (hp : p ∈ objL H ps) : p.toNat + 1 + (slotsOf H p).length ≤ H.row.length := by
  obtain ⟨hpp, h6⟩ := objL_mem hp
  obtain ⟨i, rfl, hci, _⟩ := hA.nat p hpp
  rw [Int.toNat_natCast] at h6 ⊢
  have e := slots_end hci h6
  have := chunk_bounds H.row i
  omega
theorem dif_row {H : Hp} {ps os : List Int} (hA : Apart H ps) (ho : ∀ p ∈ os, p ∈ objL H ps) : ∀ k, k ≤ os.length → Dif H os (strRow H (os.take k))
  | 0, _ => by simpa [strRow] using dif_refl H os
  | k + 1, hk => by
    have ih := dif_row hA ho k (by omega)
    have hm : os.getD k 0 ∈ os := by rw [List.getD_eq_getElem?_getD, List.getElem?_eq_getElem (show k < os.length by omega)]; exact List.getElem_mem _
    rw [strRow_next (by omega)]
    unfold strAt
    split
    · exact ih
    · rename_i hn
      exact dif_put ih hm (by simpa using hn) (by simp) (obj_len hA (ho _ hm))
/-- Ahead of its turn an object is as it was. -/
theorem row_later {H : Hp} {ps os : List Int} (hA : Apart H ps) (ho : ∀ p ∈ os, p ∈ objL H ps) (hr : Rising os) {k : Nat} (hk : k < os.length) (q : Nat) (hq : (os.getD k 0).toNat ≤ q) : (strRow H (os.take k)).getD q 0 = H.row.getD q 0 := by
  have hD : Dif H (os.take k) (strRow H (os.take k)) := by
    have := dif_row (os := os.take k) hA (fun p hp => ho p (List.mem_of_mem_take hp)) k (by simp; omega)
    rwa [List.take_take, Nat.min_self] at this
  refine hD.same q ?_
  unfold cov
  rw [List.any_eq_false]
  intro p hp hc
  have hlt := rising_take hr hk p hp
  have hm : os.getD k 0 ∈ os := by rw [List.getD_eq_getElem?_getD, List.getElem?_eq_getElem hk]; exact List.getElem_mem _
  obtain ⟨h1, h6⟩ := objL_mem (ho p (List.mem_of_mem_take hp))
  obtain ⟨h2, _⟩ := objL_mem (ho _ hm)
  obtain ⟨i, rfl, hci, _⟩ := hA.nat p h1
  obtain ⟨j, ej, _, _⟩ := hA.nat _ h2
  rw [ej] at hlt h2 hq
  rw [Int.toNat_natCast] at h6 hq
  have e := slots_end hci h6
  have := hA.two h1 h2 (by omega)
  simp only [covP, Bool.and_eq_true, decide_eq_true_eq, Int.toNat_natCast] at hc
  omega
/-- The heap made straight, but for what is seen. -/
def strH (H : Hp) (ps : List Int) : Hp := { H with row := strRow H (objL H ps), roots := H.roots.map (fol H), mourned := H.mourned.map (fol H) }
def strF (H : Hp) (ps : List Int) : Hp := { strH H ps with seen := seenL (strH H ps) }
theorem chunk_sim {H H' : Hp} {ps : List Int} (S : Sim H H' ps) {j : Nat} (hj : (j : Int) ∈ ps) : chunk H'.row j = chunk H.row j := by
  unfold chunk
  rw [S.head j hj, S.len]
  by_cases h6 : uF (H.row.getD j 0) = 6
  · rw [S.second j hj (.inr h6)]
  · by_cases h7 : uF (H.row.getD j 0) = 7
    · rw [S.second j hj (.inl h7)]
    · simp only [if_neg h6, h7, false_implies]
theorem walkL_sim {H H' : Hp} {ps : List Int} (S : Sim H H' ps) (t : Nat) : ∀ (n k : Nat) (l : List Int), walkL H.row t n k = some l → (∀ p ∈ l, p ∈ ps) → walkL H'.row t n k = some l := by
  intro n
  induction n with
  | zero =>
    intro k l h _
    unfold walkL at h ⊢
    exact h
  | succ n ih =>
    intro k l h hm
    by_cases h1 : k < t
    · by_cases hb : chunk H.row k = 0 ∨ (k : Int) + chunk H.row k > t
      · rw [walkL_bad _ _ _ _ h1 hb] at h; cases h
      · rw [walkL_step _ _ _ _ h1 hb] at h
        obtain ⟨l', hl', rfl⟩ := Option.map_eq_some_iff.1 h
        have e := chunk_sim S (hm _ (List.mem_cons_self ..))
        rw [walkL_step _ _ _ _ h1 (by rw [e]; exact hb), e, ih _ _ hl' (fun p hp => hm p (List.mem_cons_of_mem _ hp))]
        rfl
    · rw [walkL_end _ _ _ _ h1] at h ⊢
      exact h
theorem sim_places {H : Hp} {ps os : List Int} (h : placesR H = some ps) (ho : ∀ p ∈ os, p ∈ objL H ps) {H' : Hp} (hD : Dif H os H'.row) (e1 : H'.half = H.half) (e2 : H'.old = H.old) (e3 : H'.side = H.side) (e4 : H'.top = H.top) (e5 : H'.seed = H.seed) (e6 : H'.roots.length = H.roots.length) (e7 : H'.mourned.length = H.mourned.length) :
    placesR H' = some ps ∧ upW H' = upW H ∧ Nums H' ∧ numB H' = true := by
  have hA := apart_of h
  have S := sim_of hA ho hD
  have hb : hbad H' = hbad H := by
    unfold hbad hb8 hb7 hb6 hb5 hb4 hb3 hb2 hb1 hb0
    rw [e1, e2, e3, e4, e5, e6, e7, S.len]
  have hb0 : hbad H = false := by
    cases e : hbad H
    · rfl
    · unfold placesR at h; rw [if_pos e] at h; cases h
  obtain ⟨N, hz, r, u, hr, hu, hall, hps⟩ := places_facts h
  have q1 : bs H' = bs H := by unfold bs; rw [e3, e1]
  have q2 : tp H' = tp H := by unfold tp; rw [e4]
  have q3 : hf H' = hf H := by unfold hf; rw [e1]
  have q4 : od H' = od H := by unfold od; rw [e2]
  have w1 : roomW H' = some r := by
    unfold roomW walkO
    rw [q1, q2]
    exact walkL_sim S _ _ _ _ hr (fun p hp => by rw [hps]; exact List.mem_append.2 (.inl hp))
  have w2 : upW H' = some u := by
    unfold upW walkO
    rw [q3, q4]
    exact walkL_sim S _ _ _ _ hu (fun p hp => by rw [hps]; exact List.mem_append.2 (.inr hp))
  have hal : r.all (roomOk H') = true := by
    rw [List.all_eq_true] at hall ⊢
    intro p hp
    have hpp : p ∈ ps := by rw [hps]; exact List.mem_append.2 (.inl hp)
    obtain ⟨j, rfl, _, _⟩ := hA.nat p hpp
    have := hall _ hp
    unfold roomOk at this ⊢
    rw [Int.toNat_natCast] at this ⊢
    rwa [S.head j hpp]
  obtain ⟨_, m1⟩ := walkL_apart _ _ _ _ _ hr
  obtain ⟨_, m2⟩ := walkL_apart _ _ _ _ _ hu
  have hzz : zeroB H' = true := by
    refine zeroB_true (fun i hi => ?_)
    have hi' : i < 2 * hf H := by rw [q3] at hi; exact hi
    have hz0 : zeroAt H i = true := by
      unfold zeroB at hz
      rw [List.all_eq_true] at hz
      exact hz i (List.mem_range.2 hi')
    unfold zeroAt at hz0 ⊢
    rw [q1, q2]
    by_cases hc : i < bs H ∨ bs H + tp H ≤ i
    · have hcv : cov H os i = false := by
        unfold cov
        rw [List.any_eq_false]
        intro p hp hcp
        obtain ⟨hpp, h6⟩ := objL_mem (ho p hp)
        obtain ⟨j, rfl, hci, _⟩ := hA.nat p hpp
        rw [Int.toNat_natCast] at h6
        have e := slots_end hci h6
        simp only [covP, Bool.and_eq_true, decide_eq_true_eq, Int.toNat_natCast] at hcp
        rw [hps] at hpp
        rcases List.mem_append.1 hpp with hpp | hpp
        · have := m1 _ hpp
          rw [Int.toNat_natCast] at this
          omega
        · have := m2 _ hpp
          omega
      rw [hD.same i hcv]
      exact hz0
    · simp only [not_or, Nat.not_lt, Nat.not_le] at hc
      have d1 : decide (i < bs H) = false := decide_eq_false (by omega)
      have d2 : decide (bs H + tp H ≤ i) = false := decide_eq_false (by omega)
      rw [d1, d2]; rfl
  have hN : Nums H' := nums_of (hb.trans hb0)
  refine ⟨?_, w2.trans hu.symm, hN, ((numB_bad H').1 (hb.trans hb0)).1⟩
  unfold placesR
  rw [if_neg (by rw [hb, hb0]; decide), placesB_yes hzz w1 w2 hal, hps]
/-- So many of them followed. -/
def folK (H : Hp) (xs : List Int) (k : Nat) : List Int := (xs.take k).map (fol H) ++ xs.drop k
theorem folK_len (H : Hp) (xs : List Int) {k : Nat} (hk : k ≤ xs.length) : (folK H xs k).length = xs.length := by simp [folK]; omega
theorem folK_get (H : Hp) (xs : List Int) {k : Nat} (hk : k < xs.length) : (folK H xs k).getD k 0 = xs.getD k 0 := by
  unfold folK
  rw [List.getD_eq_getElem?_getD, List.getElem?_append_right (by simp; omega), List.length_map, List.length_take, Nat.min_eq_left (by omega), Nat.sub_self, List.getElem?_drop, Nat.add_zero, ← List.getD_eq_getElem?_getD]
theorem folK_set (H : Hp) (xs : List Int) {k : Nat} (hk : k < xs.length) : (folK H xs k).set k (fol H (xs.getD k 0)) = folK H xs (k + 1) := by
  unfold folK
  rw [List.set_append_right _ _ (by simp; omega), List.length_map, List.length_take, Nat.min_eq_left (by omega), Nat.sub_self, List.drop_eq_getElem_cons hk, List.set_cons_zero, List.take_add_one, List.getElem?_eq_getElem hk, List.map_append, List.append_assoc, List.getD_eq_getElem?_getD, List.getElem?_eq_getElem hk]
  rfl
theorem folK_end (H : Hp) (xs : List Int) : folK H xs xs.length = xs.map (fol H) := by simp [folK]
theorem folK_zero (H : Hp) (xs : List Int) : folK H xs 0 = xs := by simp [folK]
end Go.Proofs.YtmhbdmmpmagbkaaGreat.hp
namespace Go.Proofs.YtmhbdmmpmagbkaaGreat.hp
open Go.RowKit rows heads words walks region
set_option maxRecDepth 100000
set_option linter.unusedVariables false
set_option linter.unusedSimpArgs false

set_option maxHeartbeats 8000000 in
theorem l10Follow_any {w : World} {vr vo vm vs : Value} {H : Hp} (h : HpAt w vr vo vm vs H) {ps : List Int} (R : Rt H ps) (x : Int) (hx : wordIn H ps x = true) :
    Calls Tryz.prog 61 #[hpv H vr vo vm vs, .int .i64 x] w fun e w' => e = .returned (.int .i64 (fol H x)) ∧ Below w.heap.size w w' := by
  obtain ⟨a1, c1, a2, c2, a3, c3, a4, c4, e1, e2, e3, e4⟩ := hpAt_slices h
  subst e1 e2 e3 e4
  have B0 : Below w.heap.size w (w.alloc (hpb H (.slice a1 H.row.length c1) (.slice a2 H.roots.length c2) (.slice a3 H.mourned.length c3) (.slice a4 H.seen.length c4))) := (Below.refl _ _).alloc (Nat.le_refl _) _
  have HB0 : Hid _ := B0
  have HT0 : Hid _ := nine_new w H (.slice a1 H.row.length c1) (.slice a2 H.roots.length c2) (.slice a3 H.mourned.length c3) (.slice a4 H.seen.length c4)
  have HH : Hid _ := h
  obtain ⟨A, hA⟩ : ∃ A, fol H x = A := ⟨_, rfl⟩
  rw [hA]
  have HA : Hid _ := hA
  have HR : Hid _ := R
  have HX : Hid _ := hx
  clear h B0 hA R hx
  go_enter Tryz.func61, Tryz.ntmps61
  go_wp2_with fail
  go_loopw [1, 5, 6] (fun u _ _ wz => ∃ y : Int, u = .int .i64 y ∧ wordIn H ps y = true ∧ fol H y = A ∧ Nine wz w.heap.size 31 (.int .i64 H.half) (.int .i64 H.old) (.slice a1 H.row.length c1) (.int .i64 H.side) (.int .i64 H.top) (.slice a2 H.roots.length c2) (.slice a3 H.mourned.length c3) (.slice a4 H.seen.length c4) (.int .i64 H.seed) ∧ Below w.heap.size w wz) (fun u _ _ _ => rk H (intOf u))
  case atStart => exact ⟨x, rfl, HX.out, HA.out, HT0.out, HB0.out⟩
  case round =>
    obtain ⟨y, rfl, hy, hF, hT, hB⟩ := hrel
    clear HT0 HB0 HA HX
    obtain ⟨⟨z0, z1, z2, z3, z4⟩, ⟨z5, z6, z7, z8⟩, _⟩ := nine_cells hT
    have sr := hB.size
    have SA := sAddrOf_any y
    have HT : Hid _ := hT
    have HB : Hid _ := hB
    have HF : Hid _ := hF
    cases dA : isA y
    · have HE : Hid (A = y) := by show _ = _; rw [← hF]; exact fol_stop (by unfold toNote; rw [dA]; rfl)
      rw [dA] at SA
      clear hT hB hF hy dA
      go_wp2_with (go_at_call 60; refine (SA _).mono ?_; clear SA; rintro e w3 ⟨rfl, hw3⟩; rw [hw3]; clear hw3 w3)
      go_ret
      exact ⟨by rw [HE.out]; rfl, HB.out⟩
    · rw [dA] at SA
      obtain ⟨hm, _⟩ := word_place hy dA
      obtain ⟨j, hj, hjl, _⟩ := HR.out.plc _ hm
      have hI := (hpAt_below HH.out hB).1
      have L4 := l4Head_any hI j hjl
      unfold hw at L4
      have HST : Hid (toNote H y = false → A = y) := fun e => by rw [← hF]; exact fol_stop e
      have HNT : Hid (toNote H y = true → _) := fun e => HR.out.note hy e
      have htn : toNote H y = (uF (H.row.getD j 0) == 7) := by unfold toNote ntH; rw [dA, hj, Int.toNat_natCast]; rfl
      have hnw : noteW H y = H.row.getD (j + 1) 0 := by unfold noteW; rw [hj, Int.toNat_natCast]
      simp only [hnw, hj, Int.toNat_natCast] at HNT
      rw [hj] at SA
      generalize uF (H.row.getD j 0) = f at *
      generalize uS (H.row.getD j 0) = s at *
      generalize uC (H.row.getD j 0) = c at *
      generalize uH (H.row.getD j 0) = g at *
      generalize uP (H.row.getD j 0) = p0 at *
      generalize uM (H.row.getD j 0) = m at *
      have FF := field_format s f c g p0 m
      by_cases h7 : f = 7
      · obtain ⟨hj1, n2, n3, n4, n5⟩ := HNT.out (by rw [htn, h7]; rfl)
        subst h7
        obtain ⟨a', c', e', _, _, _, hcc⟩ := hI
        have e1 : a1 = a' := by injection e'
        subst e1
        obtain ⟨b, off, rfl, hb, hcc⟩ := hcc (by omega)
        have x1 := hcc (j + 1) hj1
        have HN : Hid (wordIn H ps (H.row.getD (j + 1) 0) = true ∧ fol H (H.row.getD (j + 1) 0) = A ∧ rk H (H.row.getD (j + 1) 0) < rk H y) := ⟨n2, by rw [← n4]; exact hF, n5⟩
        generalize H.row.getD (j + 1) 0 = z at *
        have hlen := HR.out.len
        have hj0 : j ≤ 1000 := by omega
        have hj1' : ((j : Int) + 1).toNat = j + 1 := by omega
        have hj2 : (0 : Int) ≤ (j : Int) + 1 := by omega
        have hj3 : (j : Int) + 1 < (H.row.length : Int) := by omega
        clear hT hB hF hy hcc e' htn hnw HST HNT n2 n3 n4 n5 dA hm hj hjl
        go_wp2_with (first
          | (go_at_call 60; refine (SA _).mono ?_; clear SA; rintro e w3 ⟨rfl, hw3⟩; rw [hw3]; clear hw3 w3)
          | (go_at_call 55; refine L4.mono ?_; clear L4; rintro e w2 ⟨rfl, b2⟩; have T2 := nine_below HT.out b2; have x2 := (b2.cell (p := ⟨b, off + (j + 1), none⟩) hb).trans x1; clear z0 z1 z2 z3 z4 z5 z6 z7 z8 x1; obtain ⟨⟨z0, z1, z2, z3, z4⟩, ⟨z5, z6, z7, z8⟩, _⟩ := nine_cells T2; have HT2 : Hid _ := T2; have HB2 : Hid _ := HB.out.trans (b2.mono sr); clear b2 T2))
        exact ⟨⟨z, rfl, HN.out.1, HN.out.2.1, HT2.out, HB2.out⟩, HN.out.2.2⟩
      · have h7' : (f != 7) = true := by simp [h7]
        have HE : Hid (A = y) := HST.out (by rw [htn]; simpa using h7)
        clear hT hB hF hy htn hnw HST HNT dA hm hj hjl hI
        go_wp2_with (first
          | (go_at_call 60; refine (SA _).mono ?_; clear SA; rintro e w3 ⟨rfl, hw3⟩; rw [hw3]; clear hw3 w3)
          | (go_at_call 55; refine L4.mono ?_; clear L4; rintro e w2 ⟨rfl, b2⟩; have HB2 : Hid _ := HB.out.trans (b2.mono sr); clear b2))
        go_ret
        exact ⟨by rw [HE.out]; rfl, HB2.out⟩
end Go.Proofs.YtmhbdmmpmagbkaaGreat.hp
namespace Go.Proofs.YtmhbdmmpmagbkaaGreat.region
open Go Go.RowKit

theorem ovr_congr {D : Nat → Bool} {a0 : Act} {u u' : Nat → Value} (h : ∀ s, D s = true → u s = u' s) : ovr D a0 u = ovr D a0 u' := by
  unfold ovr
  congr 2
  refine List.map_congr_left fun s _ => ?_
  cases e : D s
  · rfl
  · simp [h s e]
theorem put_dummy {D : Nat → Bool} {a0 : Act} {o : Oper} {d : Nat} (ho : o.dst = none) (hd : D d = false) (u : Nat → Value) (v v' : Value) : (ovr D a0 u).put o.dst v' = ovr D a0 (upd u d v) := by
  rw [ho]
  show ovr D a0 u = _
  refine ovr_congr fun s hs => ?_
  unfold upd
  rw [if_neg]
  rintro rfl
  rw [hd] at hs
  cases hs
theorem wp_skipped {P : Program} {o : Oper} {a : Act} {w w' : World} {K : Act → World → Prop} {Q : Exit → Act → World → Prop} (h : (execOp a.eval o).run P w = .ok .skip w') (hk : K (a.put o.dst undef) w') : o.wp P a w K Q := wp_skip' h hk
section
variable {P : Program} {ops : Array Oper} {o : Oper} {D : Nat → Bool} {a0 : Act} {u : Nat → Value} {W : World} {Q : Exit → Act → World → Prop} {R : World → World → Prop} {F : Value → World → Prop} {dk : Nat}
/-- One operation that yields a value and leaves the world as it is. -/
theorem tellV {v : Value} (hg : o.guard = none) (hd : o.dst = some dk) (hD : D dk = true) (hrun : (execOp (ovr D a0 u).eval o).run P W = .ok (.value v) W) (hR : R W W) (hF : F v W) :
    (Region.wanted o (yielded ops (ovr D a0 u).tmps) = true ∧ o.wp P (ovr D a0 u) W (fun a' W' => ∃ v, a' = ovr D a0 (upd u dk v) ∧ R W W' ∧ F v W') Q) ∨ (Region.wanted o (yielded ops (ovr D a0 u).tmps) = false ∧ o.dst = some dk ∧ D dk = true ∧ F undef W) :=
  .inl ⟨wanted_none hg, wp_value hrun ⟨v, put_in hd hD u v, hR, hF⟩⟩
/-- One call. -/
theorem tellC {f : FuncId} {args : Array Value} (hg : o.guard = none) (hd : o.dst = some dk) (hD : D dk = true) (hrun : (execOp (ovr D a0 u).eval o).run P W = .ok (.enter f args) W) (hc : Calls P f args W fun e w' => ∃ v, e = .returned v ∧ R W w' ∧ F v w') :
    (Region.wanted o (yielded ops (ovr D a0 u).tmps) = true ∧ o.wp P (ovr D a0 u) W (fun a' W' => ∃ v, a' = ovr D a0 (upd u dk v) ∧ R W W' ∧ F v W') Q) ∨ (Region.wanted o (yielded ops (ovr D a0 u).tmps) = false ∧ o.dst = some dk ∧ D dk = true ∧ F undef W) :=
  .inl ⟨wanted_none hg, wp_call hrun (hc.mono fun _ _ ⟨v, he, h1, h2⟩ => ⟨v, he, v, put_in hd hD u v, h1, h2⟩)⟩
/-- One store. -/
theorem tellS {W' : World} (hg : o.guard = none) (hd : o.dst = none) (hD : D dk = false) (hrun : (execOp (ovr D a0 u).eval o).run P W = .ok .skip W') (hR : R W W') (hF : F undef W') :
    (Region.wanted o (yielded ops (ovr D a0 u).tmps) = true ∧ o.wp P (ovr D a0 u) W (fun a' W' => ∃ v, a' = ovr D a0 (upd u dk v) ∧ R W W' ∧ F v W') Q) ∨ (Region.wanted o (yielded ops (ovr D a0 u).tmps) = false ∧ o.dst = some dk ∧ D dk = true ∧ F undef W) :=
  .inl ⟨wanted_none hg, wp_skipped hrun ⟨undef, put_dummy hd hD u undef undef, hR, hF⟩⟩
end
section
variable {P : Program} {o : Oper} {D : Nat → Bool} {a0 : Act} {u : Nat → Value} {W : World} {Q : Exit → Act → World → Prop} {F : Value → World → Prop} {dk : Nat}
/-- The same where nothing is changed till the last operation (wp_region_plain): a value, a call, the store. -/
theorem plainV {v : Value} (hd : o.dst = some dk) (hD : D dk = true) (hrun : (execOp (ovr D a0 u).eval o).run P W = .ok (.value v) W) (hF : F v W) :
    o.wp P (ovr D a0 u) W (fun a' W' => ∃ v, a' = ovr D a0 (upd u dk v) ∧ Below W.heap.size W W' ∧ F v W') Q := wp_value hrun ⟨v, put_in hd hD u v, Below.refl _ _, hF⟩
theorem plainC {f : FuncId} {args : Array Value} (hd : o.dst = some dk) (hD : D dk = true) (hrun : (execOp (ovr D a0 u).eval o).run P W = .ok (.enter f args) W) (hc : Calls P f args W fun e w' => ∃ v, e = .returned v ∧ Below W.heap.size W w' ∧ F v w') :
    o.wp P (ovr D a0 u) W (fun a' W' => ∃ v, a' = ovr D a0 (upd u dk v) ∧ Below W.heap.size W W' ∧ F v W') Q := wp_call hrun (hc.mono fun _ _ ⟨v, he, h1, h2⟩ => ⟨v, he, v, put_in hd hD u v, h1, h2⟩)
theorem plainS {W' : World} (hd : o.dst = none) (hrun : (execOp (ovr D a0 u).eval o).run P W = .ok .skip W') (hQ : Q .normal (ovr D a0 u) W') :
    o.wp P (ovr D a0 u) W (fun a' W' => ∃ u', a' = ovr D a0 u' ∧ Q .normal (ovr D a0 u') W') Q := wp_skipped hrun ⟨u, put_no hd u undef, hQ⟩
end
end Go.Proofs.YtmhbdmmpmagbkaaGreat.region
namespace Go.Proofs.YtmhbdmmpmagbkaaGreat.hp
open Go.RowKit rows heads words walks region
set_option linter.unusedVariables false

def RelB (B : Nat) (G C : Option Obj → Prop) (W W' : World) : Prop := Ch [B] W W' ∧ (G W.heap[B]? → G W'.heap[B]?) ∧ (C W.heap[B]? → C W'.heap[B]?)
theorem relB_refl (B : Nat) (G C : Option Obj → Prop) (W : World) : RelB B G C W W := ⟨Ch.refl _ _, fun z => z, fun z => z⟩
theorem relB_trans (B : Nat) (G C : Option Obj → Prop) (a b c : World) (h : RelB B G C a b) (g : RelB B G C b c) : RelB B G C a c := ⟨h.1.trans g.1, fun z => g.2.1 (h.2.1 z), fun z => g.2.2 (h.2.2 z)⟩
theorem relB_drew (B : Nat) (G C : Option Obj → Prop) (W : World) : RelB B G C W W.drew := ⟨⟨rfl, rfl, rfl, Nat.le_refl _, fun _ _ _ => rfl⟩, fun z => z, fun z => z⟩
theorem relB_below {B : Nat} {G C : Option Obj → Prop} {W W' : World} (h : Below W.heap.size W W') (hB : B < W.heap.size) : RelB B G C W W' := ⟨ch_below h, fun z => by rw [h.block _ hB]; exact z, fun z => by rw [h.block _ hB]; exact z⟩
theorem ch_cell {S : List Nat} {w w' : World} {p : Addr} (h : Ch S w w') (hl : p.block < w.heap.size) (hn : p.block ∉ S) : w'.cell? p = w.cell? p := by
  unfold World.cell?
  rw [h.block _ hl hn]
end Go.Proofs.YtmhbdmmpmagbkaaGreat.hp
namespace Go.Proofs.YtmhbdmmpmagbkaaGreat.hp
open Go.RowKit rows heads words walks
set_option maxRecDepth 100000
set_option linter.unusedVariables false
set_option linter.unusedSimpArgs false

/-- Three heaps in blocks behind one another: what came, what is answered, what is made. -/
structure CpS (w W : World) (H : Hp) (vr vo vm vs c2 c5 c6 c7 : Value) : Prop where
  n0 : Nine W w.heap.size 31 (.int .i64 H.half) (.int .i64 H.old) vr (.int .i64 H.side) (.int .i64 H.top) vo vm vs (.int .i64 H.seed)
  n1 : Nine W (w.heap.size + 1) 31 (.int .i64 0) (.int .i64 0) (.slice none 0 0) (.int .i64 0) (.int .i64 0) (.slice none 0 0) (.slice none 0 0) (.slice none 0 0) (.int .i64 0)
  n2 : Nine W (w.heap.size + 2) 31 (.int .i64 H.half) (.int .i64 H.old) c2 (.int .i64 H.side) (.int .i64 H.top) c5 c6 c7 (.int .i64 H.seed)
  below : Below w.heap.size w W
  size : w.heap.size + 3 ≤ W.heap.size
theorem CpS.grow {w W W' : World} {H : Hp} {vr vo vm vs c2 c5 c6 c7 : Value} (h : CpS w W H vr vo vm vs c2 c5 c6 c7) (hb : Below W.heap.size W W') : CpS w W' H vr vo vm vs c2 c5 c6 c7 := ⟨nine_below h.n0 hb, nine_below h.n1 hb, nine_below h.n2 hb, h.below.trans (hb.mono h.below.size), Nat.le_trans h.size hb.size⟩
theorem CpS.fields {w W : World} {H : Hp} {vr vo vm vs c2 c5 c6 c7 : Value} (h : CpS w W H vr vo vm vs c2 c5 c6 c7) {W' : World} {d2 d5 d6 d7 : Value} (hc : Ch [w.heap.size + 2] W W') (h2 : Nine W' (w.heap.size + 2) 31 (.int .i64 H.half) (.int .i64 H.old) d2 (.int .i64 H.side) (.int .i64 H.top) d5 d6 d7 (.int .i64 H.seed)) : CpS w W' H vr vo vm vs d2 d5 d6 d7 :=
  ⟨nine_ch h.n0 hc (by simp), nine_ch h.n1 hc (by simp), h2, h.below.trans (below_ch hc h.below.size (fun k hk => by simp at hk; omega)), Nat.le_trans h.size hc.size⟩
theorem own_set {W : World} {base b k : Nat} {v u : Value} {xs : List Int} (h : rows.Own W base v xs) (hb : b < base) : rows.Own (W.setCell ⟨b, k, none⟩ u) base v xs := row_ch (S := [b]) h (one_ch _ _ _ _) (fun j hj => by have := (blk_lt h j hj).1; simp; omega)
set_option maxHeartbeats 16000000 in
theorem l9Copy_any {w : World} {vr vo vm vs : Value} {H : Hp} (h : HpAt w vr vo vm vs H) (hs : hpSize H ≤ 1048576) :
    Calls Tryz.prog 70 #[hpv H vr vo vm vs] w fun e w' => ∃ g1 g2 g3 k1 k2 k3 s', e = .returned (hpv H (.slice (some ⟨g1, 0, none⟩) H.row.length k1) (.slice (some ⟨g2, 0, none⟩) H.roots.length k2) (.slice (some ⟨g3, 0, none⟩) H.mourned.length k3) s') ∧ OwnH w' w.heap.size (.slice (some ⟨g1, 0, none⟩) H.row.length k1) (.slice (some ⟨g2, 0, none⟩) H.roots.length k2) (.slice (some ⟨g3, 0, none⟩) H.mourned.length k3) s' H ∧ Below w.heap.size w w' := by
  obtain ⟨a1, c1, a2, c2, a3, c3, a4, c4, e1, e2, e3, e4⟩ := hpAt_slices h
  subst e1 e2 e3 e4
  have l1 : H.row.length ≤ 1048576 := by unfold hpSize at hs; omega
  have l2 : H.roots.length ≤ 1048576 := by unfold hpSize at hs; omega
  have l3 : H.mourned.length ≤ 1048576 := by unfold hpSize at hs; omega
  have l4 : H.seen.length ≤ 1048576 := by unfold hpSize at hs; omega
  have HH : Hid _ := h
  have B0 : Below w.heap.size w (w.alloc (hpb H (.slice a1 H.row.length c1) (.slice a2 H.roots.length c2) (.slice a3 H.mourned.length c3) (.slice a4 H.seen.length c4))) := (Below.refl _ _).alloc (Nat.le_refl _) _
  have B1 := B0.alloc B0.size (hpb ⟨0, 0, [], 0, 0, [], [], [], 0⟩ (.slice none 0 0) (.slice none 0 0) (.slice none 0 0) (.slice none 0 0))
  have T0 := nine_new w H (.slice a1 H.row.length c1) (.slice a2 H.roots.length c2) (.slice a3 H.mourned.length c3) (.slice a4 H.seen.length c4)
  have T0' := nine_below T0 ((Below.refl _ _).alloc (Nat.le_refl _) (hpb ⟨0, 0, [], 0, 0, [], [], [], 0⟩ (.slice none 0 0) (.slice none 0 0) (.slice none 0 0) (.slice none 0 0)))
  have T1 : Nine ((w.alloc (hpb H (.slice a1 H.row.length c1) (.slice a2 H.roots.length c2) (.slice a3 H.mourned.length c3) (.slice a4 H.seen.length c4))).alloc (hpb ⟨0, 0, [], 0, 0, [], [], [], 0⟩ (.slice none 0 0) (.slice none 0 0) (.slice none 0 0) (.slice none 0 0))) (w.heap.size + 1) 31 (.int .i64 0) (.int .i64 0) (.slice none 0 0) (.int .i64 0) (.int .i64 0) (.slice none 0 0) (.slice none 0 0) (.slice none 0 0) (.int .i64 0) := (congrArg (fun k => ((w.alloc (hpb H (.slice a1 H.row.length c1) (.slice a2 H.roots.length c2) (.slice a3 H.mourned.length c3) (.slice a4 H.seen.length c4))).alloc (hpb ⟨0, 0, [], 0, 0, [], [], [], 0⟩ (.slice none 0 0) (.slice none 0 0) (.slice none 0 0) (.slice none 0 0))).heap[k]?) (show w.heap.size + 1 = (w.alloc (hpb H (.slice a1 H.row.length c1) (.slice a2 H.roots.length c2) (.slice a3 H.mourned.length c3) (.slice a4 H.seen.length c4))).heap.size by simp)).trans (heap_alloc_new _ _)
  have HB1 : Hid _ := B1
  have HT0 : Hid _ := T0'
  have HT1 : Hid _ := T1
  have sX : w.heap.size + 2 = ((w.alloc (hpb H (.slice a1 H.row.length c1) (.slice a2 H.roots.length c2) (.slice a3 H.mourned.length c3) (.slice a4 H.seen.length c4))).alloc (hpb ⟨0, 0, [], 0, 0, [], [], [], 0⟩ (.slice none 0 0) (.slice none 0 0) (.slice none 0 0) (.slice none 0 0))).heap.size := by simp
  clear h B0 B1 T0 T0' T1 hs
  go_enter Tryz.func70, Tryz.ntmps70
  go_upto_region 1 with fail
  generalize hX : (w.alloc _).alloc _ = X at *
  have HsX : Hid _ := sX
  clear hX sX
  obtain ⟨⟨z0, z1, z2, z3, z4⟩, ⟨z5, z6, z7, z8⟩, _⟩ := nine_cells HT0.out
  go_upto_region 2 with fail
  have BX : Below X.heap.size X (X.alloc (hpb H (.slice a1 H.row.length c1) (.slice a2 H.roots.length c2) (.slice a3 H.mourned.length c3) (.slice a4 H.seen.length c4))) := (Below.refl _ _).alloc (Nat.le_refl _) _
  have HS0 : Hid (CpS w (X.alloc (hpb H (.slice a1 H.row.length c1) (.slice a2 H.roots.length c2) (.slice a3 H.mourned.length c3) (.slice a4 H.seen.length c4))) H (.slice a1 H.row.length c1) (.slice a2 H.roots.length c2) (.slice a3 H.mourned.length c3) (.slice a4 H.seen.length c4) (.slice a1 H.row.length c1) (.slice a2 H.roots.length c2) (.slice a3 H.mourned.length c3) (.slice a4 H.seen.length c4)) := ⟨nine_below HT0.out BX, nine_below HT1.out BX, by rw [HsX.out]; exact heap_alloc_new _ _, HB1.out.trans (BX.mono HB1.out.size), by have := HsX.out; simp; omega⟩
  clear BX z0 z1 z2 z3 z4 z5 z6 z7 z8 HT0 HT1 HB1
  have hXs : X.heap.size = w.heap.size + 2 := HsX.out.symm
  rw [hXs]
  generalize X.alloc (hpb H (.slice a1 H.row.length c1) (.slice a2 H.roots.length c2) (.slice a3 H.mourned.length c3) (.slice a4 H.seen.length c4)) = W at *
  clear hXs HsX
  have BA : Below W.heap.size W (W.alloc (.cells #[] 2)) := (Below.refl _ _).alloc (Nat.le_refl _) _
  obtain ⟨⟨z0, z1, z2, z3, z4⟩, ⟨z5, z6, z7, z8⟩, _⟩ := nine_cells (HS0.out.grow BA).n0
  have IN := intsAt_below HH.out.1 HS0.out.below
  clear BA
  go_upto_region 3 with (at_builtin; refine wpList_copied IN l1 rfl _ _ rfl (by simp [Act.eval]) rfl ?_; intro g1 k1 w11 hg hO hB; have HOA : Hid (rows.Own w11 W.heap.size (.slice (some ⟨g1, 0, none⟩) H.row.length k1) H.row) := hO; have HB : Hid _ := hB; obtain ⟨⟨y0, y1, y2, y3, y4⟩, ⟨y5, y6, y7, y8⟩, yf⟩ := nine_cells (HS0.out.grow hB).n2; have f2 := yf 2; clear hO hB yf z0 z1 z2 z3 z4 z5 z6 z7 z8 IN)
  have HS1 : Hid (CpS w (w11.setCell ⟨w.heap.size + 2, 2, none⟩ (.slice (some ⟨g1, 0, none⟩) H.row.length k1)) H (.slice a1 H.row.length c1) (.slice a2 H.roots.length c2) (.slice a3 H.mourned.length c3) (.slice a4 H.seen.length c4) (.slice (some ⟨g1, 0, none⟩) H.row.length k1) (.slice a2 H.roots.length c2) (.slice a3 H.mourned.length c3) (.slice a4 H.seen.length c4)) := (HS0.out.grow HB.out).fields (one_ch _ _ _ _) (nine_set2 (HS0.out.grow HB.out).n2 _)
  have HO1 : Hid (rows.Own (w11.setCell ⟨w.heap.size + 2, 2, none⟩ (.slice (some ⟨g1, 0, none⟩) H.row.length k1)) (w.heap.size + 3) (.slice (some ⟨g1, 0, none⟩) H.row.length k1) H.row) := own_set (own_base HOA.out HS0.out.size) (by omega)
  clear HOA HB hg y0 y1 y2 y3 y4 y5 y6 y7 y8 HS0 f2
  generalize w11.setCell ⟨w.heap.size + 2, 2, none⟩ (.slice (some ⟨g1, 0, none⟩) H.row.length k1) = V1 at *
  have HL1 : Hid (g1 < V1.heap.size) := (own_lt HO1.out g1 rfl).2
  have BA : Below V1.heap.size V1 (V1.alloc (.cells #[] 2)) := (Below.refl _ _).alloc (Nat.le_refl _) _
  obtain ⟨⟨z0, z1, z2, z3, z4⟩, ⟨z5, z6, z7, z8⟩, _⟩ := nine_cells (HS1.out.grow BA).n0
  have IN := intsAt_below HH.out.2.1 HS1.out.below
  clear BA
  go_upto_region 4 with (at_builtin; refine wpList_copied IN l2 rfl _ _ rfl (by simp [Act.eval]) rfl ?_; intro g2 k2 w12 hg hO hB; have HOA : Hid (rows.Own w12 V1.heap.size (.slice (some ⟨g2, 0, none⟩) H.roots.length k2) H.roots) := hO; have HB : Hid _ := hB; obtain ⟨⟨y0, y1, y2, y3, y4⟩, ⟨y5, y6, y7, y8⟩, yf⟩ := nine_cells (HS1.out.grow hB).n2; have f5 := yf 5; clear hO hB yf z0 z1 z2 z3 z4 z5 z6 z7 z8 IN)
  have HS2 : Hid (CpS w (w12.setCell ⟨w.heap.size + 2, 5, none⟩ (.slice (some ⟨g2, 0, none⟩) H.roots.length k2)) H (.slice a1 H.row.length c1) (.slice a2 H.roots.length c2) (.slice a3 H.mourned.length c3) (.slice a4 H.seen.length c4) (.slice (some ⟨g1, 0, none⟩) H.row.length k1) (.slice (some ⟨g2, 0, none⟩) H.roots.length k2) (.slice a3 H.mourned.length c3) (.slice a4 H.seen.length c4)) := (HS1.out.grow HB.out).fields (one_ch _ _ _ _) (nine_set5 (HS1.out.grow HB.out).n2 _)
  have HO2 : Hid (rows.Own (w12.setCell ⟨w.heap.size + 2, 5, none⟩ (.slice (some ⟨g2, 0, none⟩) H.roots.length k2)) (w.heap.size + 3) (.slice (some ⟨g2, 0, none⟩) H.roots.length k2) H.roots) := own_set (own_base HOA.out HS1.out.size) (by omega)
  have HO1 : Hid (rows.Own (w12.setCell ⟨w.heap.size + 2, 5, none⟩ (.slice (some ⟨g2, 0, none⟩) H.roots.length k2)) (w.heap.size + 3) (.slice (some ⟨g1, 0, none⟩) H.row.length k1) H.row) := own_set (own_below HO1.out HB.out) (by omega)
  have HD12 : Hid (g1 < g2) := Nat.lt_of_lt_of_le HL1.out hg
  clear HOA HB hg y0 y1 y2 y3 y4 y5 y6 y7 y8 HS1 f5
  generalize w12.setCell ⟨w.heap.size + 2, 5, none⟩ (.slice (some ⟨g2, 0, none⟩) H.roots.length k2) = V2 at *
  have HL1 : Hid (g1 < V2.heap.size) := (own_lt HO1.out g1 rfl).2
  have HL2 : Hid (g2 < V2.heap.size) := (own_lt HO2.out g2 rfl).2
  have BA : Below V2.heap.size V2 (V2.alloc (.cells #[] 2)) := (Below.refl _ _).alloc (Nat.le_refl _) _
  obtain ⟨⟨z0, z1, z2, z3, z4⟩, ⟨z5, z6, z7, z8⟩, _⟩ := nine_cells (HS2.out.grow BA).n0
  have IN := intsAt_below HH.out.2.2.1 HS2.out.below
  clear BA
  go_upto_region 5 with (at_builtin; refine wpList_copied IN l3 rfl _ _ rfl (by simp [Act.eval]) rfl ?_; intro g3 k3 w13 hg hO hB; have HOA : Hid (rows.Own w13 V2.heap.size (.slice (some ⟨g3, 0, none⟩) H.mourned.length k3) H.mourned) := hO; have HB : Hid _ := hB; obtain ⟨⟨y0, y1, y2, y3, y4⟩, ⟨y5, y6, y7, y8⟩, yf⟩ := nine_cells (HS2.out.grow hB).n2; have f6 := yf 6; clear hO hB yf z0 z1 z2 z3 z4 z5 z6 z7 z8 IN)
  have HS3 : Hid (CpS w (w13.setCell ⟨w.heap.size + 2, 6, none⟩ (.slice (some ⟨g3, 0, none⟩) H.mourned.length k3)) H (.slice a1 H.row.length c1) (.slice a2 H.roots.length c2) (.slice a3 H.mourned.length c3) (.slice a4 H.seen.length c4) (.slice (some ⟨g1, 0, none⟩) H.row.length k1) (.slice (some ⟨g2, 0, none⟩) H.roots.length k2) (.slice (some ⟨g3, 0, none⟩) H.mourned.length k3) (.slice a4 H.seen.length c4)) := (HS2.out.grow HB.out).fields (one_ch _ _ _ _) (nine_set6 (HS2.out.grow HB.out).n2 _)
  have HO3 : Hid (rows.Own (w13.setCell ⟨w.heap.size + 2, 6, none⟩ (.slice (some ⟨g3, 0, none⟩) H.mourned.length k3)) (w.heap.size + 3) (.slice (some ⟨g3, 0, none⟩) H.mourned.length k3) H.mourned) := own_set (own_base HOA.out HS2.out.size) (by omega)
  have HO1 : Hid (rows.Own (w13.setCell ⟨w.heap.size + 2, 6, none⟩ (.slice (some ⟨g3, 0, none⟩) H.mourned.length k3)) (w.heap.size + 3) (.slice (some ⟨g1, 0, none⟩) H.row.length k1) H.row) := own_set (own_below HO1.out HB.out) (by omega)
  have HD13 : Hid (g1 < g3) := Nat.lt_of_lt_of_le HL1.out hg
  have HO2 : Hid (rows.Own (w13.setCell ⟨w.heap.size + 2, 6, none⟩ (.slice (some ⟨g3, 0, none⟩) H.mourned.length k3)) (w.heap.size + 3) (.slice (some ⟨g2, 0, none⟩) H.roots.length k2) H.roots) := own_set (own_below HO2.out HB.out) (by omega)
  have HD23 : Hid (g2 < g3) := Nat.lt_of_lt_of_le HL2.out hg
  clear HOA HB hg y0 y1 y2 y3 y4 y5 y6 y7 y8 HS2 f6
  generalize w13.setCell ⟨w.heap.size + 2, 6, none⟩ (.slice (some ⟨g3, 0, none⟩) H.mourned.length k3) = V3 at *
  have HL1 : Hid (g1 < V3.heap.size) := (own_lt HO1.out g1 rfl).2
  have HL2 : Hid (g2 < V3.heap.size) := (own_lt HO2.out g2 rfl).2
  have HL3 : Hid (g3 < V3.heap.size) := (own_lt HO3.out g3 rfl).2
  have BA : Below V3.heap.size V3 (V3.alloc (.cells #[] 2)) := (Below.refl _ _).alloc (Nat.le_refl _) _
  obtain ⟨⟨z0, z1, z2, z3, z4⟩, ⟨z5, z6, z7, z8⟩, _⟩ := nine_cells (HS3.out.grow BA).n0
  have IN := intsAt_below HH.out.2.2.2 HS3.out.below
  clear BA
  go_upto_region 6 with (at_builtin; refine wpList_copied IN l4 rfl _ _ rfl (by simp [Act.eval]) rfl ?_; intro g4 k4 w14 hg hO hB; have HOA : Hid (rows.Own w14 V3.heap.size (.slice (some ⟨g4, 0, none⟩) H.seen.length k4) H.seen) := hO; have HB : Hid _ := hB; obtain ⟨⟨y0, y1, y2, y3, y4⟩, ⟨y5, y6, y7, y8⟩, yf⟩ := nine_cells (HS3.out.grow hB).n2; have f7 := yf 7; clear hO hB yf z0 z1 z2 z3 z4 z5 z6 z7 z8 IN)
  have HS4 : Hid (CpS w (w14.setCell ⟨w.heap.size + 2, 7, none⟩ (.slice (some ⟨g4, 0, none⟩) H.seen.length k4)) H (.slice a1 H.row.length c1) (.slice a2 H.roots.length c2) (.slice a3 H.mourned.length c3) (.slice a4 H.seen.length c4) (.slice (some ⟨g1, 0, none⟩) H.row.length k1) (.slice (some ⟨g2, 0, none⟩) H.roots.length k2) (.slice (some ⟨g3, 0, none⟩) H.mourned.length k3) (.slice (some ⟨g4, 0, none⟩) H.seen.length k4)) := (HS3.out.grow HB.out).fields (one_ch _ _ _ _) (nine_set7 (HS3.out.grow HB.out).n2 _)
  have HO4 : Hid (rows.Own (w14.setCell ⟨w.heap.size + 2, 7, none⟩ (.slice (some ⟨g4, 0, none⟩) H.seen.length k4)) (w.heap.size + 3) (.slice (some ⟨g4, 0, none⟩) H.seen.length k4) H.seen) := own_set (own_base HOA.out HS3.out.size) (by omega)
  have HO1 : Hid (rows.Own (w14.setCell ⟨w.heap.size + 2, 7, none⟩ (.slice (some ⟨g4, 0, none⟩) H.seen.length k4)) (w.heap.size + 3) (.slice (some ⟨g1, 0, none⟩) H.row.length k1) H.row) := own_set (own_below HO1.out HB.out) (by omega)
  have HD14 : Hid (g1 < g4) := Nat.lt_of_lt_of_le HL1.out hg
  have HO2 : Hid (rows.Own (w14.setCell ⟨w.heap.size + 2, 7, none⟩ (.slice (some ⟨g4, 0, none⟩) H.seen.length k4)) (w.heap.size + 3) (.slice (some ⟨g2, 0, none⟩) H.roots.length k2) H.roots) := own_set (own_below HO2.out HB.out) (by omega)
  have HD24 : Hid (g2 < g4) := Nat.lt_of_lt_of_le HL2.out hg
  have HO3 : Hid (rows.Own (w14.setCell ⟨w.heap.size + 2, 7, none⟩ (.slice (some ⟨g4, 0, none⟩) H.seen.length k4)) (w.heap.size + 3) (.slice (some ⟨g3, 0, none⟩) H.mourned.length k3) H.mourned) := own_set (own_below HO3.out HB.out) (by omega)
  have HD34 : Hid (g3 < g4) := Nat.lt_of_lt_of_le HL3.out hg
  clear HOA HB hg y0 y1 y2 y3 y4 y5 y6 y7 y8 HS3 f7
  generalize w14.setCell ⟨w.heap.size + 2, 7, none⟩ (.slice (some ⟨g4, 0, none⟩) H.seen.length k4) = V4 at *
  have HL1 : Hid (g1 < V4.heap.size) := (own_lt HO1.out g1 rfl).2
  have HL2 : Hid (g2 < V4.heap.size) := (own_lt HO2.out g2 rfl).2
  have HL3 : Hid (g3 < V4.heap.size) := (own_lt HO3.out g3 rfl).2
  have HL4 : Hid (g4 < V4.heap.size) := (own_lt HO4.out g4 rfl).2
  obtain ⟨⟨z0, z1, z2, z3, z4⟩, ⟨z5, z6, z7, z8⟩, _⟩ := nine_cells HS4.out.n2
  obtain ⟨⟨y0, y1, y2, y3, y4⟩, ⟨y5, y6, y7, y8⟩, yf⟩ := nine_cells HS4.out.n1
  have f0 := yf 0
  have f1 := yf 1
  have f2 := yf 2
  have f3 := yf 3
  have f4 := yf 4
  have f5 := yf 5
  have f6 := yf 6
  have f7 := yf 7
  have f8 := yf 8
  clear yf
  have HB4 : Hid _ := HS4.out.below
  have HN1 : Hid _ := HS4.out.n1
  clear HS4
  go_wp2_with fail
  refine bodyPost_ret (res_heap rfl rfl (nine_sets HN1.out _ _ _ _ _ _ _ _ _)) rfl ⟨_, _, _, _, _, _, _, rfl, ⟨⟨?_, ?_, ?_, ?_⟩, ?_⟩, nine_belows HB4.out (by omega) _ _ _ _ _ _ _ _ _⟩
  · exact own_base (row_ch (S := [w.heap.size + 1]) HO1.out (nine_other _ _ _ _ _ _ _ _ _) (fun j hj => by have := (blk_lt HO1.out j hj).1; simp; omega)) (by omega)
  · exact own_base (row_ch (S := [w.heap.size + 1]) HO2.out (nine_other _ _ _ _ _ _ _ _ _) (fun j hj => by have := (blk_lt HO2.out j hj).1; simp; omega)) (by omega)
  · exact own_base (row_ch (S := [w.heap.size + 1]) HO3.out (nine_other _ _ _ _ _ _ _ _ _) (fun j hj => by have := (blk_lt HO3.out j hj).1; simp; omega)) (by omega)
  · exact own_base (row_ch (S := [w.heap.size + 1]) HO4.out (nine_other _ _ _ _ _ _ _ _ _) (fun j hj => by have := (blk_lt HO4.out j hj).1; simp; omega)) (by omega)
  · have q12 := HD12.out
    have q13 := HD13.out
    have q14 := HD14.out
    have q23 := HD23.out
    have q24 := HD24.out
    have q34 := HD34.out
    simp [hblk, blk, Value.ownBlock]
    omega
end Go.Proofs.YtmhbdmmpmagbkaaGreat.hp
namespace Go.Proofs.YtmhbdmmpmagbkaaGreat.region
open Go

theorem all_listed' {ops : Array Oper} {l : Array Bool} (hacyc : ∀ (k : Nat) (o : Oper), ops[k]? = some o → ∀ e ∈ o.after, Region.binds .any e = true → e.on < k) (hl : l.size = ops.size) (h : Region.ready .any ops l = []) : ∀ k, k < ops.size → l.getD k false = true := by
  intro k
  induction k using Nat.strongRecOn with
  | ind k ih =>
    intro hk
    have hl' : k < l.size := by omega
    cases hv : l.getD k false with
    | true => rfl
    | false =>
      have h1 : l.getD k true = false := by
        simp only [Array.getD, hl', dite_true] at hv ⊢
        exact hv
      have : k ∈ Region.ready .any ops l := mem_ready.2 ⟨h1, ops[k], Array.getElem?_eq_getElem hk, fun e he hb => ih e.on (hacyc k _ (Array.getElem?_eq_getElem hk) e he hb) (by have := hacyc k _ (Array.getElem?_eq_getElem hk) e he hb; omega)⟩
      rw [h] at this
      cases this
theorem wp_region_bind {P : Program} {id : Nat} {ops : Array Oper} {Q : Exit → Act → World → Prop} {a0 : Act} {w : World} (hm : P.follows .mixedOrders = true) (D : Nat → Bool)
    (hg : ∀ o ∈ ops, o.guard = none) (hacyc : ∀ (k : Nat) (o : Oper), ops[k]? = some o → ∀ e ∈ o.after, Region.binds .any e = true → e.on < k)
    (I : Array Bool → (Nat → Value) → World → Prop)
    (start : I (Array.replicate ops.size false) (fun s => a0.tmps.getD s undef) w.drew)
    (fin : ∀ l u w, I l u w → (∀ k, k < ops.size → l.getD k false = true) → Q .normal (ovr D a0 u) w)
    (stp : ∀ l u w k o, I l u w → l.size = ops.size → l.getD k false = false → ops[k]? = some o → (∀ e ∈ o.after, Region.binds .any e = true → l.getD e.on false = true) →
      o.wp P (ovr D a0 u) w (fun a' w' => ∃ u', a' = ovr D a0 u' ∧ I (l.setIfInBounds k true) u' w') Q) : (Code.region id ops true).wp P Q a0 w := by
  refine wp_region_inv hm (fun l a w => l.size = ops.size ∧ ∃ u, a = ovr D a0 u ∧ I l u w) ⟨by simp, _, (ovr_self D a0).symm, start⟩ ?_ ?_
  · rintro l a w ⟨hl, u, rfl, h⟩ hr
    exact fin l u w h (all_listed' hacyc hl hr)
  · rintro l a w i ⟨hl, u, rfl, h⟩ hi
    obtain ⟨h1, o, ho, hd⟩ := mem_ready.1 hi
    have hi' : i < ops.size := (Array.getElem?_eq_some_iff.1 ho).1
    have h1' : l.getD i false = false := by
      have hl' : i < l.size := by omega
      simp only [Array.getD, hl', dite_true] at h1 ⊢
      exact h1
    have hgo := hg o (Array.mem_of_getElem? ho)
    unfold wpOp
    rw [ho]
    simp only
    rw [if_pos (by simp [Region.wanted, hgo])]
    refine .inl (Oper.wp_mono (fun a' w' h' => ?_) (stp l u w i o h hl h1' ho hd))
    obtain ⟨u', e, h'⟩ := h'
    exact ⟨by simpa using hl, u', e, h'⟩
end Go.Proofs.YtmhbdmmpmagbkaaGreat.region
namespace Go.Proofs.YtmhbdmmpmagbkaaGreat.hp
open Go.RowKit rows heads words walks
set_option maxRecDepth 100000
set_option linter.unusedVariables false
set_option linter.unusedSimpArgs false

/-- What the program knows of notes, as the heap has it. -/
structure FolP (H : Hp) (ps : List Int) (ds : List Pd) (sl : Pd → List Int) : Prop where
  rt : Rt H ps
  note : NoteP ds sl (ntH H) (nxH H)
  word : ∀ x, holdW ds x = wordIn H ps x
  first : ∀ i, i < ds.length → (ds.getD i pdD).f = 7 → (sl (ds.getD i pdD)).getD 0 0 = H.row.getD ((ds.getD i pdD).pl.toNat + 1) 0
theorem folP_of {a : Option Addr} {H : Hp} (h : heapOk H = true) : ∃ ps, FolP H ps (objsP a H) (slP H.row) := by
  have hr := (ok_right h).1
  obtain ⟨ps, R⟩ := rt_of hr
  rw [← openB_is a H] at hr
  obtain ⟨hn, hro, hS, _, _⟩ := openB_parts hr
  have hb : placesB H = some ps := by
    have := R.some'
    unfold placesR at this
    split at this
    · cases this
    · exact this
  have RM := rooms_of (a := a) hn hro hb R.some'
  refine ⟨ps, R, noteP_of hn hro hS, RM.word, fun i hi h7 => ?_⟩
  obtain ⟨j, e, hc, h6⟩ := objs_in hro _ (mem_getDP hi)
  rw [e] at h7 ⊢
  rw [(slP_note (a := a) hc h7).2, pdOf_pl, Int.toNat_natCast]; rfl
set_option maxHeartbeats 16000000 in
theorem follow_any {w : World} {up : Int} {a : Option Addr} {cap : Nat} {H : Hp} {ps : List Int} {ds : List Pd} {sl : Pd → List Int} (hv : RoomsAt w (.slice a ds.length cap) ds sl) (hF : FolP H ps ds sl) (x : Int) (hx : wordIn H ps x = true) (hb : I64 x) :
    Calls Tryz.prog 136 #[rmv up (.slice a ds.length cap), .int .i64 x] w fun e w' => e = .returned (.int .i64 (fol H x)) ∧ Below w.heap.size w w' := by
  have B0 : Below w.heap.size w (w.alloc (rmb up (.slice a ds.length cap))) := (Below.refl _ _).alloc (Nat.le_refl _) _
  have HALL : Hid (∀ V, Below (w.alloc (rmb up (.slice a ds.length cap))).heap.size (w.alloc (rmb up (.slice a ds.length cap))) V → (V.cell? ⟨w.heap.size, 0, none⟩ = some (.int .i64 up) ∧ V.cell? ⟨w.heap.size, 1, none⟩ = some (.slice a ds.length cap)) ∧ Below w.heap.size w V) := by
    intro V hV
    have q0 : V.heap[w.heap.size]? = some (rmb up (.slice a ds.length cap)) := (hV.block _ (by simp)).trans (heap_alloc_new w _)
    exact ⟨(rmb_cells q0).1, B0.trans (hV.mono B0.size)⟩
  have HLB : Hid (∀ V, Below w.heap.size w V → ∀ x, I64 x → Calls Tryz.prog 128 #[rmv up (.slice a ds.length cap), .int .i64 x] V fun e w' => (ledB ds x = false → e = .returned (.tuple #[pdv pdD, .bool false])) ∧ (ledB ds x = true → ∃ i, i < ds.length ∧ (ds.getD i pdD).pl = av x ∧ e = .returned (.tuple #[pdv (ds.getD i pdD), .bool true])) ∧ Below V.heap.size V w') := fun V hV x hx => ledBy_any (pdsAt_below hv.pds hV) hv.slices hv.rise (Nat.le_trans hv.len (by decide)) x hx.1 hx.2
  have HSL : Hid _ := hv.slices
  have HSP : Hid _ := hv.slots
  have HFP : Hid _ := hF
  obtain ⟨A, hA⟩ : ∃ A, fol H x = A := ⟨_, rfl⟩
  rw [hA]
  have HA : Hid _ := hA
  have HX : Hid _ := hx
  have HXB : Hid _ := hb
  clear hv hF B0 hA hx hb
  go_enter Tryz.func136, Tryz.ntmps136
  go_wp2_with fail
  generalize w.alloc (rmb up (.slice a ds.length cap)) = X at *
  go_step3
  go_wp2_with fail
  go_step3
  go_wp2_with fail
  go_loopw [1, 5, 6] (fun u _ _ wz => ∃ y : Int, u = .int .i64 y ∧ wordIn H ps y = true ∧ I64 y ∧ fol H y = A ∧ Below X.heap.size X wz) (fun u _ _ _ => rk H (intOf u))
  case atStart => exact ⟨x, rfl, HX.out, HXB.out, HA.out, Below.refl _ _⟩
  case round =>
    obtain ⟨y, rfl, hy, hyb, hF, hB⟩ := hrel
    clear HA HX HXB
    have HB : Hid _ := hB
    obtain ⟨⟨z0, z1⟩, bw⟩ := HALL.out wr hB
    have LB := HLB.out wr bw y hyb
    have hw := HFP.out.word y
    rw [hy] at hw
    cases hl : ledB ds y
    · have HE : Hid (A = y) := by
        show _ = _
        rw [← hF]
        refine fol_stop ?_
        unfold toNote
        unfold ledB at hl
        unfold holdW at hw
        cases e : isA y
        · rfl
        · rw [e] at hl hw
          rw [Bool.true_and] at hl
          rw [if_pos rfl, hl] at hw
          cases hw
      have L0 := LB.mono (fun e w' (hh : _ ∧ _ ∧ _) => (⟨hh.1 hl, hh.2.2⟩ : e = .returned (.tuple #[pdv pdD, .bool false]) ∧ Below wr.heap.size wr w'))
      have HBW : Hid _ := bw
      clear LB hl hw hF hy bw hB
      go_upto_region 2 with (go_at_call 128; refine L0.mono ?_; clear L0 z0 z1; rintro e w3 ⟨rfl, b3⟩; have HB3 : Hid _ := HBW.out.trans (b3.mono HBW.out.size); clear b3)
      obtain ⟨⟨p0, p1, p2, p3, p4, p5, p6, p7⟩, _⟩ := pdb_cells (heap_alloc_new w3 (pdb pdD))
      have HB4 : Hid _ := HB3.out.alloc HB3.out.size (pdb pdD)
      generalize w3.alloc (pdb pdD) = Y at *
      go_wp2
      try rw [Exit.noGoto_ret]
      go_ret
      exact ⟨by rw [HE.out]; rfl, HB4.out⟩
    · have L0 := LB.mono (fun e w' (hh : _ ∧ _ ∧ _) => (⟨hh.2.1 hl, hh.2.2⟩ : (∃ i, i < ds.length ∧ (ds.getD i pdD).pl = av y ∧ e = .returned (.tuple #[pdv (ds.getD i pdD), .bool true])) ∧ Below wr.heap.size wr w'))
      have hAy : isA y = true := by
        unfold ledB at hl
        rw [Bool.and_eq_true] at hl
        exact hl.1
      have HST : Hid (toNote H y = false → A = y) := fun e => by rw [← hF]; exact fol_stop e
      have HNT : Hid (toNote H y = true → _) := fun e => HFP.out.rt.note hy e
      have HFY : Hid _ := hF
      have HBW : Hid _ := bw
      have HAY : Hid _ := hAy
      clear LB hl hw hF hy bw hB hAy
      go_upto_region 2 with (go_at_call 128; refine L0.mono ?_; clear L0 z0 z1; rintro e w3 ⟨⟨i, hi, hpl, rfl⟩, b3⟩; have HB3 : Hid (Below X.heap.size X w3) := HB.out.trans (b3.mono HB.out.size); obtain ⟨sa, sn, sc, hsv⟩ := HSL.out _ (mem_getDP hi); have HN1 : Hid _ := HFP.out.note.isNote i hi; have HSO : Hid _ := HFP.out.note.some' i hi; have HFI : Hid _ := HFP.out.first i hi; have HSC : Hid _ := (fun V hV => HSP.out.call V hV i hi); have HSN : Hid _ := HSP.out.num i hi; obtain ⟨d, hd⟩ : ∃ d, ds.getD i pdD = d := ⟨_, rfl⟩; simp only [hd] at hsv hpl HN1 HSO HFI HSC HSN; rw [hd]; obtain ⟨ds', df, dc, dh, dp, dm, du, dl⟩ := d; simp only at hsv hpl HN1 HSO HFI HSC; subst hsv; have HPL : Hid _ := hpl; clear b3 hd hpl)
      obtain ⟨⟨p0, p1, p2, p3, p4, p5, p6, p7⟩, _⟩ := pdb_cells (heap_alloc_new w3 (pdb ⟨ds', df, dc, dh, dp, dm, .slice sa sn sc, dl⟩))
      simp only at p0 p1 p2 p3 p4 p5 p6 p7
      have HB4 : Hid (Below X.heap.size X (w3.alloc (pdb ⟨ds', df, dc, dh, dp, dm, .slice sa sn sc, dl⟩))) := HB3.out.alloc HB3.out.size _
      generalize w3.alloc (pdb ⟨ds', df, dc, dh, dp, dm, .slice sa sn sc, dl⟩) = Y at *
      have htn : toNote H y = (df == 7) := by unfold toNote; rw [HAY.out, Bool.true_and, ← HPL.out]; exact HN1.out.symm
      cases h7 : (df == 7)
      · have h7' : ¬ df = 7 := by simpa using h7
        have HE : Hid (A = y) := HST.out (by rw [htn]; exact h7)
        have HBE : Hid _ := (HALL.out Y HB4.out).2
        clear htn HST HNT
        go_wp2
        try rw [Exit.noGoto_ret]
        go_ret
        exact ⟨by rw [HE.out]; rfl, HBE.out⟩
      · obtain rfl : df = 7 := by simpa using h7
        obtain ⟨_, n2, n3, n4, n5⟩ := HNT.out (by rw [htn]; rfl)
        have hxp := HSO.out (by trivial)
        have hfi := HFI.out (by trivial)
        have hz : noteW H y = (sl ⟨ds', 7, dc, dh, dp, dm, .slice sa sn sc, dl⟩).getD 0 0 := by unfold noteW; rw [← HPL.out]; exact hfi.symm
        have hzb := getD_num HSN.out hxp
        have BY := (HALL.out Y HB4.out).2
        have NA := note_any (w := Y) hxp (fun V' hV' => HSC.out V' (BY.trans (hV'.mono BY.size)))
        rw [← hz] at NA hzb
        have HN : Hid (wordIn H ps (noteW H y) = true ∧ I64 (noteW H y) ∧ fol H (noteW H y) = A ∧ rk H (noteW H y) < rk H y) := ⟨n2, hzb, by rw [← n4]; exact HFY.out, n5⟩
        clear htn HST HNT h7 hz hfi hxp hzb n2 n3 n4 n5 BY
        generalize noteW H y = z at *
        go_wp2_with (go_at_call 129; refine NA.mono ?_; clear NA p0 p1 p2 p3 p4 p5 p6 p7; rintro e w5 ⟨rfl, b5⟩; have HB5 : Hid _ := HB4.out.trans (b5.mono HB4.out.size); clear b5)
        exact ⟨⟨z, rfl, HN.out.1, HN.out.2.1, HN.out.2.2.1, HB5.out⟩, HN.out.2.2.2⟩
end Go.Proofs.YtmhbdmmpmagbkaaGreat.hp
