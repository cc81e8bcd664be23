/-
  Proved: for every code the law FnHeads returns true and changes no argument; no condition.
  Made from a template over the shell that the kit's proof-skeleton prints.
-/
import Derived.Test.YtdogibjgogcdkaaRows
import Derived.WalkKit
import Derived.ProofKit
import Derived.OpenShut
import Derived.ShutString
import Derived.ChangeOld
import Derived.Below
import Derived.Test.YtdogibjgogcdkaaDrawHeads2
import Derived.Test.YtdogibjgogcdkaaHeadsAll
namespace Go.Proofs.Ytdogibjgogcdkaa.fnHeads
open Go.ChangeShapes Go.WideShapes Go.ChangeAt Go.RowKit
open Go.ChangeMaps (open_string shut_string)
open Go.Proofs.Ytdogibjgogcdkaa.draw Go.Proofs.Ytdogibjgogcdkaa.heads
set_option linter.unusedVariables false

theorem own : ownKnob Try.prog.godebug = none := by kernel_rfl
theorem laidOut : laidOutB Try.prog = true := by kernel_rfl

set_option maxRecDepth 100000 in
set_option maxHeartbeats 8000000 in
theorem walk (a0 : Option Addr) (len0 cap0 : Nat) (z0 : List Int) (w : World) (w0 : IsRow .u8 w a0 len0 cap0 z0) :
    Calls Try.prog 4 #[.slice a0 len0 cap0] w fun e w' => e = .returned (.bool true) ∧ Below w.heap.size w w' := by
  have hl : 4096 < len0 ∨ len0 ≤ 4096 := by omega
  rcases hl with hl | hl
  · have hl' : (4096 : Int) < (len0 : Int) := by omega
    clear w0
    go_enter Try.func4, Try.ntmps4
    go_wp2
    go_ret
    exact ⟨rfl, Below.refl _ _⟩
  · have hl' : ¬ (4096 : Int) < (len0 : Int) := by omega
    go_enter Try.func4, Try.ntmps4
    go_wp2_with (go_at_call 8; go_in)
    refine (drawPacked_any w0 (Below.refl _ _) hl).mono ?_
    rintro e w1 ⟨s, f, c, h, p, m, rfl, B1⟩
    go_wp2_with fail
    refine (packed_below s f c h p m _).mono ?_
    rintro e w2 ⟨rfl, b2⟩
    have T3 := headAt_below (headAt_new w1 s f c h p m) b2
    have B2 : Below w.heap.size w w2 := (B1.alloc B1.size _).trans (b2.mono (by have := B1.size; simp; omega))
    clear b2 B1
    go_wp2_with fail
    refine (drawUnpacked_any w0 B2 hl).mono ?_
    rintro e w3 ⟨v, v0, v1, rfl, b3⟩
    have T3 := headAt_below T3 b3
    have B3 : Below w.heap.size w w3 := B2.trans (b3.mono B2.size)
    clear b3 B2
    go_wp2_with fail
    refine (unpacked_any v v1 _).mono ?_
    rintro e w4 ⟨rfl, b4⟩
    have T3 := headAt_below T3 b4
    have B4 : Below w.heap.size w w4 := B3.trans (b4.mono B3.size)
    clear b4 B3
    go_wp2_with fail
    refine (drawSizeOf_any w0 (B4.alloc B4.size _) hl).mono ?_
    rintro e w5 ⟨n, n0, n1, rfl, b5⟩
    have T3 := headAt_below (headAt_alloc T3 _) b5
    have T6 := headAt_below (headAt_new w4 _ _ _ _ _ _) b5
    have B5 : Below w.heap.size w w5 := (B4.alloc B4.size _).trans (b5.mono (by have := B4.size; simp; omega))
    clear b5 B4
    go_wp2_with (go_at_call 27; refine (sizeOf_any _ _).mono ?_; rintro e w' ⟨rfl, rfl⟩)
    refine (sUnpacked_any v _).mono ?_
    rintro e w6 ⟨rfl, b6⟩
    have T3 := headAt_alloc (headAt_below T3 b6) (hb (uS v) (uF v) (uC v) (uH v) (uP v) (uM v))
    have T6 := headAt_alloc (headAt_below T6 b6) (hb (uS v) (uF v) (uC v) (uH v) (uP v) (uM v))
    have T10 := headAt_new w6 (uS v) (uF v) (uC v) (uH v) (uP v) (uM v)
    have B6 : Below w.heap.size w w6 := B5.trans (b6.mono B5.size)
    have BX := B6.alloc B6.size (hb (uS v) (uF v) (uC v) (uH v) (uP v) (uM v))
    clear b6 B5 B6
    go_wp2_with fail
    generalize w6.alloc (.cells #[.int .i64 (uS v), .int .i64 (uF v), .int .i64 (uC v), .int .i64 (uH v), .bool (uP v), .bool (uM v)] 30) = X at T3 T6 T10 BX ⊢
    obtain ⟨a0, a1, a2, a3, a4, a5⟩ := headAt_grow T3 (lt_of_block T3)
    obtain ⟨c0, c1, c2, c3, c4, c5⟩ := headAt_grow T6 (lt_of_block T6)
    obtain ⟨d0, d1, d2, d3, d4, d5⟩ := headAt_grow T10 (lt_of_block T10)
    haveI : Nonempty (Ext X.heap.size X) := ⟨⟨X, Below.refl _ _⟩⟩
    refine region_grow (n := X.heap.size) (by kernel_rfl) (by kernel_rfl) ?_
    repeat (go_big_quiet_step ((first | (go_at_call 29; exact calls_grow (Nat.le_refl _) (sPacked_any _ _ _ _ _ _ _)) | (go_at_call 30; exact calls_grow (Nat.le_refl _) (headOk_below _ _ _ _ _ _ _)) | (go_at_call 31; exact calls_grow (Nat.le_refl _) (sHeadOk_below _ _ _ _ _ _ _)) | (go_at_call 32; exact calls_grow (Nat.le_refl _) (sSizeOf_below _ _)) | (go_at_call 33; exact calls_grow (Nat.le_refl _) (strongFrom_below _ _ _ _ _ _ _)) | (go_at_call 34; exact calls_grow (Nat.le_refl _) (sStrongFrom_below _ _ _ _ _ _ _)))))
    refine wpQuiet_nil ?_
    intro _ hw'
    obtain ⟨x, rfl⟩ := hw'
    have T3 := headAt_below T3 x.below
    have T6 := headAt_below T6 x.below
    have B7 : Below w.heap.size w x.to := BX.trans (x.below.mono BX.size)
    clear a0 a1 a2 a3 a4 a5 c0 c1 c2 c3 c4 c5 d0 d1 d2 d3 d4 d5 T10 BX
    generalize x.to = Y at *
    clear x this
    cases ho : ok v
    · obtain ⟨k0, k1, k2, k3, k4, k5, _⟩ := headAt_cells T3
      obtain ⟨l0, l1, l2, l3, l4, l5, _⟩ := headAt_cells T6
      cases i : inR 0 20 n
      · rcases inR_false i with i1 | i1
        · have i2 : ¬ 0 ≤ n := by omega
          cases hk : hok s f c h p m
          · have e1 : pkd s f c h p m = -1 := by simp [pkd, hk]
            go_wp2_with fail
            refine (headOk_below s f c h p m _).mono ?_
            rintro e Z ⟨rfl, bZ⟩
            have BZ : Below w.heap.size w Z := B7.trans (bZ.mono B7.size)
            go_wp2
            go_ret
            exact ⟨rfl, BZ⟩
          · have e1 : pkd s f c h p m = pk s f c h p m := by simp [pkd, hk]
            have hl := pk_least hk
            obtain ⟨o0, o1, o2, o3, o4, o5, o6⟩ := told hk
            generalize hq : pk s f c h p m = q at *
            obtain ⟨q0, q1⟩ := hl
            go_wp2_with fail
            refine (unpacked_any q (by omega) _).mono ?_
            rintro e Z ⟨rfl, bZ⟩
            have T3 := headAt_below T3 bZ
            have T6 := headAt_below T6 bZ
            have zz3 : w1.heap.size < Z.heap.size := lt_of_block T3
            have zz6 : w4.heap.size < Z.heap.size := lt_of_block T6
            have BZ : Below w.heap.size w Z := B7.trans (bZ.mono B7.size)
            have BX := BZ.alloc BZ.size (hb s f c h p m)
            clear bZ k0 k1 k2 k3 k4 k5 l0 l1 l2 l3 l4 l5
            obtain ⟨k0, k1, k2, k3, k4, k5, _⟩ := headAt_cells T3
            obtain ⟨l0, l1, l2, l3, l4, l5, _⟩ := headAt_cells T6
            rw [o0, o1, o2, o3, o4, o5, o6]
            go_wp2
            go_ret
            exact ⟨rfl, BX⟩
        · have i2 : ¬ n ≤ 20 := by omega
          have i3 : 0 ≤ n := by omega
          cases hk : hok s f c h p m
          · have e1 : pkd s f c h p m = -1 := by simp [pkd, hk]
            go_wp2_with fail
            refine (headOk_below s f c h p m _).mono ?_
            rintro e Z ⟨rfl, bZ⟩
            have BZ : Below w.heap.size w Z := B7.trans (bZ.mono B7.size)
            go_wp2
            go_ret
            exact ⟨rfl, BZ⟩
          · have e1 : pkd s f c h p m = pk s f c h p m := by simp [pkd, hk]
            have hl := pk_least hk
            obtain ⟨o0, o1, o2, o3, o4, o5, o6⟩ := told hk
            generalize hq : pk s f c h p m = q at *
            obtain ⟨q0, q1⟩ := hl
            go_wp2_with fail
            refine (unpacked_any q (by omega) _).mono ?_
            rintro e Z ⟨rfl, bZ⟩
            have T3 := headAt_below T3 bZ
            have T6 := headAt_below T6 bZ
            have zz3 : w1.heap.size < Z.heap.size := lt_of_block T3
            have zz6 : w4.heap.size < Z.heap.size := lt_of_block T6
            have BZ : Below w.heap.size w Z := B7.trans (bZ.mono B7.size)
            have BX := BZ.alloc BZ.size (hb s f c h p m)
            clear bZ k0 k1 k2 k3 k4 k5 l0 l1 l2 l3 l4 l5
            obtain ⟨k0, k1, k2, k3, k4, k5, _⟩ := headAt_cells T3
            obtain ⟨l0, l1, l2, l3, l4, l5, _⟩ := headAt_cells T6
            rw [o0, o1, o2, o3, o4, o5, o6]
            go_wp2
            go_ret
            exact ⟨rfl, BX⟩
      · obtain ⟨z1, z2, z3, z4, z5, i3, i4⟩ := sz_yes i
        generalize sz n = z at *
        cases hk : hok s f c h p m
        · have e1 : pkd s f c h p m = -1 := by simp [pkd, hk]
          go_wp2_with fail
          refine (headOk_below s f c h p m _).mono ?_
          rintro e Z ⟨rfl, bZ⟩
          have BZ : Below w.heap.size w Z := B7.trans (bZ.mono B7.size)
          go_wp2
          go_ret
          exact ⟨rfl, BZ⟩
        · have e1 : pkd s f c h p m = pk s f c h p m := by simp [pkd, hk]
          have hl := pk_least hk
          obtain ⟨o0, o1, o2, o3, o4, o5, o6⟩ := told hk
          generalize hq : pk s f c h p m = q at *
          obtain ⟨q0, q1⟩ := hl
          go_wp2_with fail
          refine (unpacked_any q (by omega) _).mono ?_
          rintro e Z ⟨rfl, bZ⟩
          have T3 := headAt_below T3 bZ
          have T6 := headAt_below T6 bZ
          have zz3 : w1.heap.size < Z.heap.size := lt_of_block T3
          have zz6 : w4.heap.size < Z.heap.size := lt_of_block T6
          have BZ : Below w.heap.size w Z := B7.trans (bZ.mono B7.size)
          have BX := BZ.alloc BZ.size (hb s f c h p m)
          clear bZ k0 k1 k2 k3 k4 k5 l0 l1 l2 l3 l4 l5
          obtain ⟨k0, k1, k2, k3, k4, k5, _⟩ := headAt_cells T3
          obtain ⟨l0, l1, l2, l3, l4, l5, _⟩ := headAt_cells T6
          rw [o0, o1, o2, o3, o4, o5, o6]
          go_wp2
          go_ret
          exact ⟨rfl, BX⟩
    · have ag := again ho
      obtain ⟨k0, k1, k2, k3, k4, k5, _⟩ := headAt_cells T3
      obtain ⟨l0, l1, l2, l3, l4, l5, _⟩ := headAt_cells T6
      go_wp2_with fail
      refine (packed_below _ _ _ _ _ _ _).mono ?_
      rintro e Z ⟨rfl, bZ⟩
      have T3 := headAt_below T3 bZ
      have T6 := headAt_below T6 bZ
      have B7 : Below w.heap.size w Z := B7.trans (bZ.mono B7.size)
      clear bZ k0 k1 k2 k3 k4 k5 l0 l1 l2 l3 l4 l5
      obtain ⟨k0, k1, k2, k3, k4, k5, _⟩ := headAt_cells T3
      obtain ⟨l0, l1, l2, l3, l4, l5, _⟩ := headAt_cells T6
      cases i : inR 0 20 n
      · rcases inR_false i with i1 | i1
        · have i2 : ¬ 0 ≤ n := by omega
          cases hk : hok s f c h p m
          · have e1 : pkd s f c h p m = -1 := by simp [pkd, hk]
            go_wp2_with fail
            refine (headOk_below s f c h p m _).mono ?_
            rintro e Z ⟨rfl, bZ⟩
            have BZ : Below w.heap.size w Z := B7.trans (bZ.mono B7.size)
            go_wp2
            go_ret
            exact ⟨rfl, BZ⟩
          · have e1 : pkd s f c h p m = pk s f c h p m := by simp [pkd, hk]
            have hl := pk_least hk
            obtain ⟨o0, o1, o2, o3, o4, o5, o6⟩ := told hk
            generalize hq : pk s f c h p m = q at *
            obtain ⟨q0, q1⟩ := hl
            go_wp2_with fail
            refine (unpacked_any q (by omega) _).mono ?_
            rintro e Z ⟨rfl, bZ⟩
            have T3 := headAt_below T3 bZ
            have T6 := headAt_below T6 bZ
            have zz3 : w1.heap.size < Z.heap.size := lt_of_block T3
            have zz6 : w4.heap.size < Z.heap.size := lt_of_block T6
            have BZ : Below w.heap.size w Z := B7.trans (bZ.mono B7.size)
            have BX := BZ.alloc BZ.size (hb s f c h p m)
            clear bZ k0 k1 k2 k3 k4 k5 l0 l1 l2 l3 l4 l5
            obtain ⟨k0, k1, k2, k3, k4, k5, _⟩ := headAt_cells T3
            obtain ⟨l0, l1, l2, l3, l4, l5, _⟩ := headAt_cells T6
            rw [o0, o1, o2, o3, o4, o5, o6]
            by_cases hvq : v = q
            · subst hvq
              go_wp2
              go_ret
              exact ⟨rfl, BX⟩
            · have hvb : (v == q) = false := by simpa using hvq
              by_cases y0 : uS v = s
              · by_cases y1 : uF v = f
                · by_cases y2 : uC v = c
                  · by_cases y3 : uH v = h
                    · by_cases y4 : uP v = p
                      · by_cases y5 : uM v = m
                        · rw [y0, y1, y2, y3, y4, y5, e1] at ag
                          exact absurd ag.symm hvq
                        · go_wp2
                          go_ret
                          exact ⟨rfl, BX⟩
                      · go_wp2
                        go_ret
                        exact ⟨rfl, BX⟩
                    · go_wp2
                      go_ret
                      exact ⟨rfl, BX⟩
                  · go_wp2
                    go_ret
                    exact ⟨rfl, BX⟩
                · go_wp2
                  go_ret
                  exact ⟨rfl, BX⟩
              · go_wp2
                go_ret
                exact ⟨rfl, BX⟩
        · have i2 : ¬ n ≤ 20 := by omega
          have i3 : 0 ≤ n := by omega
          cases hk : hok s f c h p m
          · have e1 : pkd s f c h p m = -1 := by simp [pkd, hk]
            go_wp2_with fail
            refine (headOk_below s f c h p m _).mono ?_
            rintro e Z ⟨rfl, bZ⟩
            have BZ : Below w.heap.size w Z := B7.trans (bZ.mono B7.size)
            go_wp2
            go_ret
            exact ⟨rfl, BZ⟩
          · have e1 : pkd s f c h p m = pk s f c h p m := by simp [pkd, hk]
            have hl := pk_least hk
            obtain ⟨o0, o1, o2, o3, o4, o5, o6⟩ := told hk
            generalize hq : pk s f c h p m = q at *
            obtain ⟨q0, q1⟩ := hl
            go_wp2_with fail
            refine (unpacked_any q (by omega) _).mono ?_
            rintro e Z ⟨rfl, bZ⟩
            have T3 := headAt_below T3 bZ
            have T6 := headAt_below T6 bZ
            have zz3 : w1.heap.size < Z.heap.size := lt_of_block T3
            have zz6 : w4.heap.size < Z.heap.size := lt_of_block T6
            have BZ : Below w.heap.size w Z := B7.trans (bZ.mono B7.size)
            have BX := BZ.alloc BZ.size (hb s f c h p m)
            clear bZ k0 k1 k2 k3 k4 k5 l0 l1 l2 l3 l4 l5
            obtain ⟨k0, k1, k2, k3, k4, k5, _⟩ := headAt_cells T3
            obtain ⟨l0, l1, l2, l3, l4, l5, _⟩ := headAt_cells T6
            rw [o0, o1, o2, o3, o4, o5, o6]
            by_cases hvq : v = q
            · subst hvq
              go_wp2
              go_ret
              exact ⟨rfl, BX⟩
            · have hvb : (v == q) = false := by simpa using hvq
              by_cases y0 : uS v = s
              · by_cases y1 : uF v = f
                · by_cases y2 : uC v = c
                  · by_cases y3 : uH v = h
                    · by_cases y4 : uP v = p
                      · by_cases y5 : uM v = m
                        · rw [y0, y1, y2, y3, y4, y5, e1] at ag
                          exact absurd ag.symm hvq
                        · go_wp2
                          go_ret
                          exact ⟨rfl, BX⟩
                      · go_wp2
                        go_ret
                        exact ⟨rfl, BX⟩
                    · go_wp2
                      go_ret
                      exact ⟨rfl, BX⟩
                  · go_wp2
                    go_ret
                    exact ⟨rfl, BX⟩
                · go_wp2
                  go_ret
                  exact ⟨rfl, BX⟩
              · go_wp2
                go_ret
                exact ⟨rfl, BX⟩
      · obtain ⟨z1, z2, z3, z4, z5, i3, i4⟩ := sz_yes i
        generalize sz n = z at *
        cases hk : hok s f c h p m
        · have e1 : pkd s f c h p m = -1 := by simp [pkd, hk]
          go_wp2_with fail
          refine (headOk_below s f c h p m _).mono ?_
          rintro e Z ⟨rfl, bZ⟩
          have BZ : Below w.heap.size w Z := B7.trans (bZ.mono B7.size)
          go_wp2
          go_ret
          exact ⟨rfl, BZ⟩
        · have e1 : pkd s f c h p m = pk s f c h p m := by simp [pkd, hk]
          have hl := pk_least hk
          obtain ⟨o0, o1, o2, o3, o4, o5, o6⟩ := told hk
          generalize hq : pk s f c h p m = q at *
          obtain ⟨q0, q1⟩ := hl
          go_wp2_with fail
          refine (unpacked_any q (by omega) _).mono ?_
          rintro e Z ⟨rfl, bZ⟩
          have T3 := headAt_below T3 bZ
          have T6 := headAt_below T6 bZ
          have zz3 : w1.heap.size < Z.heap.size := lt_of_block T3
          have zz6 : w4.heap.size < Z.heap.size := lt_of_block T6
          have BZ : Below w.heap.size w Z := B7.trans (bZ.mono B7.size)
          have BX := BZ.alloc BZ.size (hb s f c h p m)
          clear bZ k0 k1 k2 k3 k4 k5 l0 l1 l2 l3 l4 l5
          obtain ⟨k0, k1, k2, k3, k4, k5, _⟩ := headAt_cells T3
          obtain ⟨l0, l1, l2, l3, l4, l5, _⟩ := headAt_cells T6
          rw [o0, o1, o2, o3, o4, o5, o6]
          by_cases hvq : v = q
          · subst hvq
            go_wp2
            go_ret
            exact ⟨rfl, BX⟩
          · have hvb : (v == q) = false := by simpa using hvq
            by_cases y0 : uS v = s
            · by_cases y1 : uF v = f
              · by_cases y2 : uC v = c
                · by_cases y3 : uH v = h
                  · by_cases y4 : uP v = p
                    · by_cases y5 : uM v = m
                      · rw [y0, y1, y2, y3, y4, y5, e1] at ag
                        exact absurd ag.symm hvq
                      · go_wp2
                        go_ret
                        exact ⟨rfl, BX⟩
                    · go_wp2
                      go_ret
                      exact ⟨rfl, BX⟩
                  · go_wp2
                    go_ret
                    exact ⟨rfl, BX⟩
                · go_wp2
                  go_ret
                  exact ⟨rfl, BX⟩
              · go_wp2
                go_ret
                exact ⟨rfl, BX⟩
            · go_wp2
              go_ret
              exact ⟨rfl, BX⟩

set_option maxRecDepth 100000 in
theorem lifted (os : Os) (started : os.Started) (H : Type) (enc : TypeId × Value → H) :
    ReturnsInHanded {} Try.checked os 4 .any (Rows.fnHeadsSpec.pre6 enc Try.prog Try.f4 Rows.fnHeadsRow.domain false) (Rows.fnHeadsSpec.post enc Try.prog Try.f4 false true false false) := by
  refine returnsInHanded_of_change (C := Try.checked) own started (by kernel_rfl) Try.func4
    (ChangeSpec.witness6 (enc := enc) (C := Try.checked) false ⟨#[], #[.slice none 0 0], []⟩ 8 (by kernel_rfl) (by kernel_rfl) (by kernel_rfl) (by kernel_rfl)) ?_
  intro W base args ds gs before hval0 hW hcnd _
  have hval : ∀ (j : Nat) t v, Try.f4.params[j]? = some t → args[j]? = some v → Value.okWide Try.prog W .any base t v := hval0
  have hW' := hW
  obtain ⟨p, q, hA0, hV, rfl, hfz, hnd⟩ := hW
  have hA : DataW.TrodAll enc Try.prog W 0 (fun _ => true) true Try.f4.params.toList args.toList ds p := hA0
  rw [Try.params4] at hA hval
  obtain ⟨v0, vs0, d0, ds0, p0, q0, hargs, rfl, rfl, h0, r0⟩ := trodAll_cons hA
  obtain ⟨rfl, rfl, rfl⟩ := trodAll_nil r0
  obtain rfl : args = #[v0] := by cases args; simp_all
  obtain ⟨rfl, rfl⟩ := trodVars_none hV
  obtain ⟨a0, len0, cap0, rfl⟩ := okWide_slice Try.underlying22 (hval 0 22 v0 rfl rfl)
  have k0 := h0
  have lt0 : ∀ x ∈ p0, x.block < W.heap.size := by obtain ⟨m, hm⟩ := k0; exact DataW.trod_lt m _ _ _ hm
  obtain ⟨z0, w0⟩ : ∃ zs, IsRow .u8 W a0 len0 cap0 zs := by
    obtain ⟨fuel, hf⟩ := h0
    rcases open_ints Try.underlying22 Try.underlying5 (by kernel_rfl) hf with ⟨hcs, _⟩ | ⟨x, l, c, zs, hcs, _, hl, hm, hz, _, hcell, hwz⟩
    · simp [Value.cells] at hcs
      obtain ⟨rfl, rfl, rfl⟩ := hcs
      exact ⟨[], .inl ⟨rfl, rfl, rfl, rfl⟩⟩
    · simp [Value.cells] at hcs
      obtain ⟨rfl, rfl, rfl⟩ := hcs
      exact ⟨zs, .inr ⟨_, rfl, hl, hm, by simpa using hz, hcell, hwz⟩⟩
  clear hA0 hval0
  refine (walk a0 len0 cap0 z0 W w0).mono fun e W' ⟨he, bel⟩ => ?_
  subst he
  exact ⟨_, rfl, _, _, _, [], _, [], hW', trodAll_mk1 (shut_bool Try.underlying4 _), (trodAll_cons_mk (Below.trod laidOut (by kernel_rfl) (of_decide_eq_true (by kernel_rfl)) k0 bel lt0) trodAll_mk0), rfl, bel.frame _, fun h => by cases h⟩

theorem over : Rows.fnHeadsRow.holds Try.pinned (OpenSpec.ofChange Rows.fnHeadsSpec) :=
  OpenClaim.holds_of_wide 4 Try.f4 rfl rfl rfl rfl rfl rfl rfl ⟨rfl, rfl, rfl, rfl, rfl⟩ rfl rfl rfl rfl rfl (by kernel_rfl) Try.func4 (by kernel_rfl)
    (of_decide_eq_true (by kernel_rfl)) (by unfold Func.isWrapper; first | (rw [if_pos (by decide +kernel)]; kernel_rfl) | (rw [if_neg (by decide +kernel)]; exact ⟨rfl, rfl⟩))
    (fun os started H enc _ => lifted os started H enc)

theorem proved : Rows.FnHeadsSaid := over
#print axioms proved
end Go.Proofs.Ytdogibjgogcdkaa.fnHeads
