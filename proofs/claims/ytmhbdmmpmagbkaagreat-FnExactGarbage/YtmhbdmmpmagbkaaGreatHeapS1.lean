/-
  Chapter 9 as the specification has it: a word of a heap, a note's end, who is young.
  Made from the template HeapS1.
-/
import Derived.Test.YtmhbdmmpmagbkaaGreatHeapM
import Derived.Test.YtmhbdmmpmagbkaaGreatHeapS0
namespace Go.Proofs.YtmhbdmmpmagbkaaGreat.hp
open Go.RowKit rows heads words walks
set_option maxRecDepth 100000
set_option linter.unusedVariables false

/-- May the word stand there? -/
def wordIn (H : Hp) (ps : List Int) (x : Int) : Bool := isW x && (!(isA x) || (decide (av x ∈ ps) && !(uF (H.row.getD (av x).toNat 0) == 6)))

set_option maxHeartbeats 4000000 in
theorem l9Word_any {w : World} {vr vo vm vs vp : Value} {H : Hp} (h : HpAt w vr vo vm vs H) {ps : List Int} (hp : IntsAt w vp ps) (hpl : ps.length ≤ 1048576) (hP : Plc H ps) (x : Int) :
    Calls Tryz.prog 84 #[hpv H vr vo vm vs, vp, .int .i64 x] w fun e w' => e = .returned (.bool (wordIn H ps x)) ∧ Below w.heap.size w w' := by
  obtain ⟨a1, c1, a2, c2, a3, c3, a4, c4, e1, e2, e3, e4⟩ := hpAt_slices h
  subst e1 e2 e3 e4
  have hp' := hp
  obtain ⟨ap, cp, rfl, _, _, _, _⟩ := hp
  have B0 : Below w.heap.size w (w.alloc (hpb H (.slice a1 H.row.length c1) (.slice a2 H.roots.length c2) (.slice a3 H.mourned.length c3) (.slice a4 H.seen.length c4))) := (Below.refl _ _).alloc (Nat.le_refl _) _
  obtain ⟨⟨z0, z1, z2, z3, z4⟩, ⟨z5, z6, z7, z8⟩, _⟩ := nine_cells (nine_new w H (.slice a1 H.row.length c1) (.slice a2 H.roots.length c2) (.slice a3 H.mourned.length c3) (.slice a4 H.seen.length c4))
  have HB0 : Hid _ := B0
  have LH := l1Has_any (w := w.alloc (hpb H (.slice a1 H.row.length c1) (.slice a2 H.roots.length c2) (.slice a3 H.mourned.length c3) (.slice a4 H.seen.length c4))) (intsAt_below hp' B0) hpl (av x)
  unfold wordIn
  cases dW : isW x
  · rw [Bool.false_and]
    clear LH
    go_enter Tryz.func84, Tryz.ntmps84
    go_wp2_with (go_at_call 114; refine (sWordOk_any _ _).mono ?_; rintro e w3 ⟨rfl, hw3⟩; rw [hw3, dW]; clear hw3 w3)
    go_ret
    exact ⟨rfl, HB0.out⟩
  · rw [Bool.true_and]
    cases dA : isA x
    · clear LH
      go_enter Tryz.func84, Tryz.ntmps84
      go_wp2_with (first | (go_at_call 114; refine (sWordOk_any _ _).mono ?_; rintro e w3 ⟨rfl, hw3⟩; rw [hw3, dW]; clear hw3 w3) | (go_at_call 60; refine (sAddrOf_any _ _).mono ?_; rintro e w3 ⟨rfl, hw3⟩; rw [hw3, dA]; clear hw3 w3))
      go_ret
      exact ⟨rfl, HB0.out⟩
    · cases dM : decide (av x ∈ ps)
      · rw [dM] at LH
        rw [Bool.false_and, Bool.or_false, Bool.not_true]
        go_enter Tryz.func84, Tryz.ntmps84
        go_wp2_with (first | (go_at_call 114; refine (sWordOk_any _ _).mono ?_; rintro e w3 ⟨rfl, hw3⟩; rw [hw3, dW]; clear hw3 w3) | (go_at_call 60; refine (sAddrOf_any _ _).mono ?_; rintro e w3 ⟨rfl, hw3⟩; rw [hw3, dA]; clear hw3 w3) | (go_at_call 50; refine LH.mono ?_; clear LH; rintro e w3 ⟨rfl, hw3⟩; rw [hw3]; clear hw3 w3))
        go_ret
        exact ⟨rfl, HB0.out⟩
      · rw [dM] at LH
        rw [Bool.true_and, Bool.not_true, Bool.false_or]
        obtain ⟨j, hj, hjl⟩ := hP _ (of_decide_eq_true dM)
        have L4 := l4Head_any (intsAt_below h.1 B0) j hjl
        rw [hj, Int.toNat_natCast]
        unfold hw at L4
        have SA := sAddrOf_any x
        rw [hj] at LH SA
        generalize uF (H.row.getD j 0) = f at *
        generalize uS (H.row.getD j 0) = s at *
        generalize uC (H.row.getD j 0) = c at *
        generalize uH (H.row.getD j 0) = g at *
        generalize uP (H.row.getD j 0) = p at *
        generalize uM (H.row.getD j 0) = m at *
        have FF := field_format s f c g p m
        have hb : (f != 6) = !(f == 6) := rfl
        clear B0 dM h hp'
        go_enter Tryz.func84, Tryz.ntmps84
        go_wp2_with (first | (go_at_call 114; refine (sWordOk_any _ _).mono ?_; rintro e w3 ⟨rfl, hw3⟩; rw [hw3, dW]; clear hw3 w3) | (go_at_call 60; refine (SA _).mono ?_; clear SA; rintro e w3 ⟨rfl, hw3⟩; rw [hw3, dA]; clear hw3 w3) | (go_at_call 50; refine LH.mono ?_; clear LH; rintro e w3 ⟨rfl, hw3⟩; rw [hw3]; clear hw3 w3) | (go_at_call 55; refine L4.mono ?_; clear L4; rintro e w3 ⟨rfl, b3⟩; have HB3 : Hid _ := HB0.out.trans (b3.mono HB0.out.size); clear b3))
        go_ret
        exact ⟨by rw [← hb]; rfl, HB3.out⟩
end Go.Proofs.YtmhbdmmpmagbkaaGreat.hp
