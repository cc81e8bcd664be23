/-
  How much a heap holds; two heaps that are the same.
  Made from the template HeapE.
-/
import Derived.Test.YtemlagfaaibenaaGreatHeapT
import Derived.Test.YtemlagfaaibenaaGreatM1
namespace Go.Proofs.YtemlagfaaibenaaGreat.hp
open Go.RowKit rows heads words walks
set_option maxRecDepth 100000
set_option linter.unusedVariables false

set_option maxHeartbeats 2000000 in
theorem szInt64S_any {w : World} {v : Value} {xs : List Int} (h : IntsAt w v xs) (left : Nat) (hl : left ≤ 1048576) :
    Calls Tryz.prog 20 #[v, .int .i64 left] w fun e w' => e = .returned (.int .i64 (if xs.length ≤ left then (left : Int) - xs.length else -1)) ∧ w' = w := by
  obtain ⟨a, cap, rfl, hlc, hcm, _, _⟩ := h
  have hm : xs.length ≤ 9223372036854775807 := by unfold maxLen at hcm; omega
  by_cases d : xs.length ≤ left
  · rw [if_pos d]
    have d1 : ¬ (left : Int) - (xs.length : Int) < 0 := by omega
    go_enter Tryz.func20, Tryz.ntmps20
    go_wp2
    go_ret
    exact ⟨by first | rfl | go_num, rfl⟩
  · rw [if_neg d]
    have d1 : (left : Int) - (xs.length : Int) < 0 := by omega
    go_enter Tryz.func20, Tryz.ntmps20
    go_wp2
    go_ret
    exact ⟨by first | rfl | go_num, rfl⟩

set_option maxHeartbeats 4000000 in
theorem szHeap_any {w : World} {vr vo vm vs : Value} {H : Hp} (h : HpAt w vr vo vm vs H) (left : Nat) (hleft : left ≤ 1048576) :
    Calls Tryz.prog 7 #[hpv H vr vo vm vs, .int .i64 left] w fun e w' => e = .returned (.int .i64 (if hpSize H ≤ left then (left : Int) - hpSize H else -1)) ∧ Below w.heap.size w w' := by
  obtain ⟨a1, c1, a2, c2, a3, c3, a4, c4, e1, e2, e3, e4⟩ := hpAt_slices h
  subst e1 e2 e3 e4
  have B : Below w.heap.size w (w.alloc (.cells #[.int .i64 H.half, .int .i64 H.old, .slice a1 H.row.length c1, .int .i64 H.side, .int .i64 H.top, .slice a2 H.roots.length c2, .slice a3 H.mourned.length c3, .slice a4 H.seen.length c4, .int .i64 H.seed] 24)) := (Below.refl _ w).alloc (Nat.le_refl _) _
  obtain ⟨⟨k0, k1, k2, k3, k4⟩, ⟨k5, k6, k7, k8⟩, _⟩ := nine_cells (nine_mk w 24 (.int .i64 H.half) (.int .i64 H.old) (.slice a1 H.row.length c1) (.int .i64 H.side) (.int .i64 H.top) (.slice a2 H.roots.length c2) (.slice a3 H.mourned.length c3) (.slice a4 H.seen.length c4) (.int .i64 H.seed))
  obtain ⟨h1, h2, h3, h4⟩ := hpAt_below h B
  obtain ⟨RV, hRV⟩ : ∃ RV : Int, (if hpSize H ≤ left then (left : Int) - hpSize H else -1) = RV := ⟨_, rfl⟩
  rw [hRV]
  have HRV : Hid _ := hRV
  have HB : Hid _ := B
  have S1 := szInt64S_any h1 left hleft
  clear B hRV h h1
  by_cases d1 : H.row.length ≤ left
  case neg =>
    rw [if_neg d1] at S1
    have ER : Hid (RV = -1) := by show RV = _; rw [← HRV.out, if_neg (by unfold hpSize; omega)]
    clear HRV h2 h3 h4
    go_enter Tryz.func7, Tryz.ntmps7
    go_wp2_with (go_at_call 20; refine S1.mono ?_; clear S1; rintro e w3 ⟨rfl, hw3⟩; rw [hw3]; clear hw3 w3)
    go_ret
    exact ⟨by rw [ER.out]; rfl, HB⟩
  rw [if_pos d1] at S1
  obtain ⟨l1, hl1⟩ : ∃ l1 : Nat, (left : Int) - (H.row.length : Int) = (l1 : Int) := ⟨left - H.row.length, by omega⟩
  rw [hl1] at S1
  have p1 : ¬ (l1 : Int) < 0 := by omega
  have S2 := szInt64S_any h2 l1 (by omega)
  clear h2
  by_cases d2 : H.roots.length ≤ l1
  case neg =>
    rw [if_neg d2] at S2
    have ER : Hid (RV = -1) := by show RV = _; rw [← HRV.out, if_neg (by unfold hpSize; omega)]
    clear HRV h3 h4 hl1
    go_enter Tryz.func7, Tryz.ntmps7
    go_wp2_with (first
      | (have hh := S1; clear hh; go_at_call 20; refine S1.mono ?_; clear S1; rintro e w3 ⟨rfl, hw3⟩; rw [hw3]; clear hw3 w3)
      | (have hh := S2; clear hh; go_at_call 20; refine S2.mono ?_; clear S2; rintro e w3 ⟨rfl, hw3⟩; rw [hw3]; clear hw3 w3))
    go_ret
    exact ⟨by rw [ER.out]; rfl, HB⟩
  rw [if_pos d2] at S2
  obtain ⟨l2, hl2⟩ : ∃ l2 : Nat, (l1 : Int) - (H.roots.length : Int) = (l2 : Int) := ⟨l1 - H.roots.length, by omega⟩
  rw [hl2] at S2
  have p2 : ¬ (l2 : Int) < 0 := by omega
  have S3 := szInt64S_any h3 l2 (by omega)
  clear h3
  by_cases d3 : H.mourned.length ≤ l2
  case neg =>
    rw [if_neg d3] at S3
    have ER : Hid (RV = -1) := by show RV = _; rw [← HRV.out, if_neg (by unfold hpSize; omega)]
    clear HRV h4 hl1 hl2
    go_enter Tryz.func7, Tryz.ntmps7
    go_wp2_with (first
      | (have hh := S1; clear hh; go_at_call 20; refine S1.mono ?_; clear S1; rintro e w3 ⟨rfl, hw3⟩; rw [hw3]; clear hw3 w3)
      | (have hh := S2; clear hh; go_at_call 20; refine S2.mono ?_; clear S2; rintro e w3 ⟨rfl, hw3⟩; rw [hw3]; clear hw3 w3)
      | (have hh := S3; clear hh; go_at_call 20; refine S3.mono ?_; clear S3; rintro e w3 ⟨rfl, hw3⟩; rw [hw3]; clear hw3 w3))
    go_ret
    exact ⟨by rw [ER.out]; rfl, HB⟩
  rw [if_pos d3] at S3
  obtain ⟨l3, hl3⟩ : ∃ l3 : Nat, (l2 : Int) - (H.mourned.length : Int) = (l3 : Int) := ⟨l2 - H.mourned.length, by omega⟩
  rw [hl3] at S3
  have p3 : ¬ (l3 : Int) < 0 := by omega
  have S4 := szInt64S_any h4 l3 (by omega)
  clear h4
  by_cases d4 : H.seen.length ≤ l3
  · rw [if_pos d4] at S4
    obtain ⟨l4, hl4⟩ : ∃ l4 : Nat, (l3 : Int) - (H.seen.length : Int) = (l4 : Int) := ⟨l3 - H.seen.length, by omega⟩
    rw [hl4] at S4
    have p4 : ¬ (l4 : Int) < 0 := by omega
    have ER : Hid (RV = (l4 : Int)) := by show RV = _; rw [← HRV.out, if_pos (by unfold hpSize; omega)]; unfold hpSize; omega
    clear HRV hl1 hl2 hl3 hl4
    go_enter Tryz.func7, Tryz.ntmps7
    go_wp2_with (first
      | (have hh := S1; clear hh; go_at_call 20; refine S1.mono ?_; clear S1; rintro e w3 ⟨rfl, hw3⟩; rw [hw3]; clear hw3 w3)
      | (have hh := S2; clear hh; go_at_call 20; refine S2.mono ?_; clear S2; rintro e w3 ⟨rfl, hw3⟩; rw [hw3]; clear hw3 w3)
      | (have hh := S3; clear hh; go_at_call 20; refine S3.mono ?_; clear S3; rintro e w3 ⟨rfl, hw3⟩; rw [hw3]; clear hw3 w3)
      | (have hh := S4; clear hh; go_at_call 20; refine S4.mono ?_; clear S4; rintro e w3 ⟨rfl, hw3⟩; rw [hw3]; clear hw3 w3))
    go_ret
    exact ⟨by rw [ER.out]; rfl, HB⟩
  · rw [if_neg d4] at S4
    have ER : Hid (RV = -1) := by show RV = _; rw [← HRV.out, if_neg (by unfold hpSize; omega)]
    clear HRV hl1 hl2 hl3
    go_enter Tryz.func7, Tryz.ntmps7
    go_wp2_with (first
      | (have hh := S1; clear hh; go_at_call 20; refine S1.mono ?_; clear S1; rintro e w3 ⟨rfl, hw3⟩; rw [hw3]; clear hw3 w3)
      | (have hh := S2; clear hh; go_at_call 20; refine S2.mono ?_; clear S2; rintro e w3 ⟨rfl, hw3⟩; rw [hw3]; clear hw3 w3)
      | (have hh := S3; clear hh; go_at_call 20; refine S3.mono ?_; clear S3; rintro e w3 ⟨rfl, hw3⟩; rw [hw3]; clear hw3 w3)
      | (have hh := S4; clear hh; go_at_call 20; refine S4.mono ?_; clear S4; rintro e w3 ⟨rfl, hw3⟩; rw [hw3]; clear hw3 w3))
    go_ret
    exact ⟨by rw [ER.out]; rfl, HB⟩

set_option maxHeartbeats 4000000 in
theorem eqHeap_same {w : World} {vr vo vm vs ur uo um us : Value} {H : Hp} (h : HpAt w vr vo vm vs H) (h' : HpAt w ur uo um us H) (hs : hpSize H ≤ 1048576) :
    Calls Tryz.prog 11 #[hpv H vr vo vm vs, hpv H ur uo um us] w fun e w' => e = .returned (.bool true) ∧ Below w.heap.size w w' := by
  obtain ⟨l1, l2, l3, l4⟩ := hp_parts hs
  have B : Below w.heap.size w ((w.alloc (hpb H vr vo vm vs)).alloc (hpb H ur uo um us)) := ((Below.refl _ w).alloc (Nat.le_refl _) _).alloc (by simp) _
  have T1 : Nine ((w.alloc (hpb H vr vo vm vs)).alloc (hpb H ur uo um us)) w.heap.size 27 (.int .i64 H.half) (.int .i64 H.old) vr (.int .i64 H.side) (.int .i64 H.top) vo vm vs (.int .i64 H.seed) := nine_below (nine_mk w _ _ _ _ _ _ _ _ _ _) ((Below.refl _ _).alloc (Nat.le_refl _) _)
  have T2 : Nine ((w.alloc (hpb H vr vo vm vs)).alloc (hpb H ur uo um us)) (w.heap.size + 1) 27 (.int .i64 H.half) (.int .i64 H.old) ur (.int .i64 H.side) (.int .i64 H.top) uo um us (.int .i64 H.seed) := by
    have := nine_mk (w.alloc (hpb H vr vo vm vs)) 27 (.int .i64 H.half) (.int .i64 H.old) ur (.int .i64 H.side) (.int .i64 H.top) uo um us (.int .i64 H.seed)
    simpa using this
  have A1 := hpAt_below h B
  have A2 := hpAt_below h' B
  obtain ⟨a1, c1, a2, c2, a3, c3, a4, c4, e1, e2, e3, e4⟩ := hpAt_slices h
  obtain ⟨b1, d1, b2, d2, b3, d3, b4, d4, f1, f2, f3, f4⟩ := hpAt_slices h'
  subst e1 e2 e3 e4 f1 f2 f3 f4
  have i1 : (H.half != H.half) = false := by simp
  have i2 : (H.old != H.old) = false := by simp
  have i3 : (H.side != H.side) = false := by simp
  have i4 : (H.top != H.top) = false := by simp
  have i5 : (H.seed != H.seed) = false := by simp
  have E1 := eqInt64S_any A1.1 A2.1 l1
  have E2 := fun n => eqInt64S_any (intsAt_drewN (n := n) A1.2.1) (intsAt_drewN (n := n) A2.2.1) l2
  have E3 := fun n => eqInt64S_any (intsAt_drewN (n := n) A1.2.2.1) (intsAt_drewN (n := n) A2.2.2.1) l3
  have E4 := fun n => eqInt64S_any (intsAt_drewN (n := n) A1.2.2.2) (intsAt_drewN (n := n) A2.2.2.2) l4
  rw [decide_eq_true (rfl : H.row = H.row)] at E1
  simp only [decide_true] at E2 E3 E4
  obtain ⟨⟨k0, k1, k2, k3, k4⟩, ⟨k5, k6, k7, k8⟩, _⟩ := nine_cells T1
  obtain ⟨⟨j0, j1, j2, j3, j4⟩, ⟨j5, j6, j7, j8⟩, _⟩ := nine_cells T2
  have HB : Hid _ := B
  clear B h h' T1 T2 A1 A2
  go_enter Tryz.func11, Tryz.ntmps11
  go_wp2_with fail
  generalize hX : ((w.alloc (hpb H (.slice a1 H.row.length c1) (.slice a2 H.roots.length c2) (.slice a3 H.mourned.length c3) (.slice a4 H.seen.length c4))).alloc (hpb H (.slice b1 H.row.length d1) (.slice b2 H.roots.length d2) (.slice b3 H.mourned.length d3) (.slice b4 H.seen.length d4))) = X at *
  clear hX
  refine E1.mono ?_
  clear E1
  rintro e w3 ⟨rfl, n1, hw3⟩
  rw [hw3]
  clear hw3 w3
  go_wp2_with (first
    | (have hh := E2; clear hh; go_at_call 24; refine (E2 _).mono ?_; clear E2; rintro e w3 ⟨rfl, n2, hw3⟩; rw [hw3]; clear hw3 w3)
    | (have hh := E3; clear hh; go_at_call 24; refine (E3 _).mono ?_; clear E3; rintro e w3 ⟨rfl, n3, hw3⟩; rw [hw3]; clear hw3 w3)
    | (have hh := E4; clear hh; go_at_call 24; refine (E4 _).mono ?_; clear E4; rintro e w3 ⟨rfl, n4, hw3⟩; rw [hw3]; clear hw3 w3))
  go_ret
  exact ⟨rfl, ⟨HB.out.os, HB.out.tape, HB.out.output, HB.out.size, HB.out.block⟩⟩
end Go.Proofs.YtemlagfaaibenaaGreat.hp
