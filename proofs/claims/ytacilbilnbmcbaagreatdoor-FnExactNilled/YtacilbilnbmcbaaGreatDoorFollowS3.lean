/-
  Chapter 10 as the specification has it: following in a heap that is partly made straight.
  Made from the template FollowS3.
-/
import Derived.Test.YtacilbilnbmcbaaGreatDoorM18
import Derived.Test.YtacilbilnbmcbaaGreatDoorM11
namespace Go.Proofs.YtacilbilnbmcbaaGreatDoor.hp
open Go.RowKit rows heads words walks region
set_option maxRecDepth 100000
set_option linter.unusedVariables false
set_option linter.unusedSimpArgs false

set_option maxHeartbeats 8000000 in
theorem l10Follow_sim {w : World} {vr vo vm vs : Value} {H H' : Hp} (h : HpAt w vr vo vm vs H') {ps : List Int} (R : Rt H ps) (S : Sim H H' ps) (x : Int) (hx : wordIn H ps x = true) :
    Calls Tryz.prog 56 #[hpv H' vr vo vm vs, .int .i64 x] w fun e w' => e = .returned (.int .i64 (fol H x)) ∧ Below w.heap.size w w' := by
  obtain ⟨a1, c1, a2, c2, a3, c3, a4, c4, e1, e2, e3, e4⟩ := hpAt_slices h
  subst e1 e2 e3 e4
  have B0 : Below w.heap.size w (w.alloc (hpb H' (.slice a1 H'.row.length c1) (.slice a2 H'.roots.length c2) (.slice a3 H'.mourned.length c3) (.slice a4 H'.seen.length c4))) := (Below.refl _ _).alloc (Nat.le_refl _) _
  have HB0 : Hid _ := B0
  have HT0 : Hid _ := nine_new w H' (.slice a1 H'.row.length c1) (.slice a2 H'.roots.length c2) (.slice a3 H'.mourned.length c3) (.slice a4 H'.seen.length c4)
  have HH : Hid _ := h
  obtain ⟨A, hA⟩ : ∃ A, fol H x = A := ⟨_, rfl⟩
  rw [hA]
  have HA : Hid _ := hA
  have HR : Hid _ := R
  have HS : Hid _ := S
  have HX : Hid _ := hx
  clear h B0 hA R hx S
  go_enter Tryz.func56, Tryz.ntmps56
  go_wp2_with fail
  go_loopw [1, 5, 6] (fun u _ _ wz => ∃ y : Int, u = .int .i64 y ∧ wordIn H ps y = true ∧ fol H y = A ∧ Nine wz w.heap.size 26 (.int .i64 H'.half) (.int .i64 H'.old) (.slice a1 H'.row.length c1) (.int .i64 H'.side) (.int .i64 H'.top) (.slice a2 H'.roots.length c2) (.slice a3 H'.mourned.length c3) (.slice a4 H'.seen.length c4) (.int .i64 H'.seed) ∧ Below w.heap.size w wz) (fun u _ _ _ => rk H (intOf u))
  case atStart => exact ⟨x, rfl, HX.out, HA.out, HT0.out, HB0.out⟩
  case round =>
    obtain ⟨y, rfl, hy, hF, hT, hB⟩ := hrel
    clear HT0 HB0 HA HX
    obtain ⟨⟨z0, z1, z2, z3, z4⟩, ⟨z5, z6, z7, z8⟩, _⟩ := nine_cells hT
    have sr := hB.size
    have SA := sAddrOf_any y
    have HT : Hid _ := hT
    have HB : Hid _ := hB
    have HF : Hid _ := hF
    cases dA : isA y
    · have HE : Hid (A = y) := by show _ = _; rw [← hF]; exact fol_stop (by unfold toNote; rw [dA]; rfl)
      rw [dA] at SA
      clear hT hB hF hy dA
      go_wp2_with (go_at_call 55; refine (SA _).mono ?_; clear SA; rintro e w3 ⟨rfl, hw3⟩; rw [hw3]; clear hw3 w3)
      go_ret
      exact ⟨by rw [HE.out]; rfl, HB.out⟩
    · rw [dA] at SA
      obtain ⟨hm, _⟩ := word_place hy dA
      obtain ⟨j, hj, hjl0, _⟩ := HR.out.plc _ hm
      have hjl : j < H'.row.length := by rw [HS.out.len]; exact hjl0
      have hI := (hpAt_below HH.out hB).1
      have L4 := l4Head_any hI j hjl
      unfold hw at L4
      have HST : Hid (toNote H y = false → A = y) := fun e => by rw [← hF]; exact fol_stop e
      have HNT : Hid (toNote H y = true → _) := fun e => HR.out.note hy e
      rw [hj] at hm
      have htn : toNote H y = (uF (H'.row.getD j 0) == 7) := by unfold toNote ntH; rw [dA, hj, Int.toNat_natCast, HS.out.head j hm]; rfl
      have HNW : Hid (uF (H'.row.getD j 0) = 7 → noteW H y = H'.row.getD (j + 1) 0) := fun e7 => by
        rw [HS.out.head j hm] at e7
        unfold noteW
        rw [hj, Int.toNat_natCast, HS.out.second j hm (.inl e7)]
      have hj1l : (av y).toNat + 1 = j + 1 := by rw [hj, Int.toNat_natCast]
      have HJ1 : Hid _ := hj1l
      have HLN : Hid _ := HS.out.len
      rw [hj] at SA
      generalize uF (H'.row.getD j 0) = f at *
      generalize uS (H'.row.getD j 0) = s at *
      generalize uC (H'.row.getD j 0) = c at *
      generalize uH (H'.row.getD j 0) = g at *
      generalize uP (H'.row.getD j 0) = p0 at *
      generalize uM (H'.row.getD j 0) = m at *
      have FF := field_format s f c g p0 m
      by_cases h7 : f = 7
      · obtain ⟨hj1, n2, n3, n4, n5⟩ := HNT.out (by rw [htn, h7]; rfl)
        rw [HJ1.out, ← HLN.out] at hj1
        rw [HNW.out h7] at n2 n4 n5
        subst h7
        obtain ⟨a', c', e', _, _, _, hcc⟩ := hI
        have e1 : a1 = a' := by injection e'
        subst e1
        obtain ⟨b, off, rfl, hb, hcc⟩ := hcc (by omega)
        have x1 := hcc (j + 1) hj1
        have HN : Hid (wordIn H ps (H'.row.getD (j + 1) 0) = true ∧ fol H (H'.row.getD (j + 1) 0) = A ∧ rk H (H'.row.getD (j + 1) 0) < rk H y) := ⟨n2, by rw [← n4]; exact hF, n5⟩
        generalize H'.row.getD (j + 1) 0 = z at *
        have hlen := HR.out.len
        have hj0 : j ≤ 1000 := by have := HLN.out; omega
        have hj1' : ((j : Int) + 1).toNat = j + 1 := by omega
        have hj2 : (0 : Int) ≤ (j : Int) + 1 := by omega
        have hj3 : (j : Int) + 1 < (H'.row.length : Int) := by omega
        clear hT hB hF hy hcc e' htn HNW HST HNT n2 n3 n4 n5 dA hm hj hjl hjl0 hlen hj1l
        go_wp2_with (first
          | (go_at_call 55; refine (SA _).mono ?_; clear SA; rintro e w3 ⟨rfl, hw3⟩; rw [hw3]; clear hw3 w3)
          | (go_at_call 41; refine L4.mono ?_; clear L4; rintro e w2 ⟨rfl, b2⟩; have T2 := nine_below HT.out b2; have x2 := (b2.cell (p := ⟨b, off + (j + 1), none⟩) hb).trans x1; clear z0 z1 z2 z3 z4 z5 z6 z7 z8 x1; obtain ⟨⟨z0, z1, z2, z3, z4⟩, ⟨z5, z6, z7, z8⟩, _⟩ := nine_cells T2; have HT2 : Hid _ := T2; have HB2 : Hid _ := HB.out.trans (b2.mono sr); clear b2 T2))
        exact ⟨⟨z, rfl, HN.out.1, HN.out.2.1, HT2.out, HB2.out⟩, HN.out.2.2⟩
      · have h7' : (f != 7) = true := by simp [h7]
        have HE : Hid (A = y) := HST.out (by rw [htn]; simpa using h7)
        clear hT hB hF hy htn HNW HST HNT dA hm hj hjl hjl0 hI hj1l
        go_wp2_with (first
          | (go_at_call 55; refine (SA _).mono ?_; clear SA; rintro e w3 ⟨rfl, hw3⟩; rw [hw3]; clear hw3 w3)
          | (go_at_call 41; refine L4.mono ?_; clear L4; rintro e w2 ⟨rfl, b2⟩; have HB2 : Hid _ := HB.out.trans (b2.mono sr); clear b2))
        go_ret
        exact ⟨by rw [HE.out]; rfl, HB2.out⟩
end Go.Proofs.YtacilbilnbmcbaaGreatDoor.hp
