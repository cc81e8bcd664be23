/-
  Chapter 17 as the specification has it: PlaceFor. Chapter 17 as the program has it: PlaceFor.
-/
import Derived.Test.YthfhjgkpabkeaaaGreatM19
import Derived.Test.YthfhjgkpabkeaaaGreatFitS2
import Derived.Test.YthfhjgkpabkeaaaGreatM15
import Derived.Test.YthfhjgkpabkeaaaGreatHeapI21
import Derived.BigQuiet
import Derived.Test.YthfhjgkpabkeaaaGreatM13
import Derived.Test.YthfhjgkpabkeaaaGreatM4
namespace Go.Proofs.YthfhjgkpabkeaaaGreat.hp
open Go.RowKit rows heads words walks region
set_option maxRecDepth 100000
set_option linter.unusedVariables false
set_option linter.unusedSimpArgs false

set_option maxHeartbeats 8000000 in
theorem l17Place_any {w : World} {vr vo vm vs : Value} {H : Hp} (h : HpAt w vr vo vm vs H) (N : Nums H) (s : Int) (q : Bool) (h2 : 2 ≤ s ∧ s ≤ 22) :
    Calls Tryz.prog 31 #[hpv H vr vo vm vs, .int .i64 s, .bool q] w fun e w' => e = .returned (.int .i64 (plcP H s q)) ∧ Below w.heap.size w w' := by
  obtain ⟨a1, c1, a2, c2, a3, c3, a4, c4, e1, e2, e3, e4⟩ := hpAt_slices h
  subst e1 e2 e3 e4
  have B0 : Below w.heap.size w (w.alloc (hpb H (.slice a1 H.row.length c1) (.slice a2 H.roots.length c2) (.slice a3 H.mourned.length c3) (.slice a4 H.seen.length c4))) := (Below.refl _ _).alloc (Nat.le_refl _) _
  have T0 := nine_new w H (.slice a1 H.row.length c1) (.slice a2 H.roots.length c2) (.slice a3 H.mourned.length c3) (.slice a4 H.seen.length c4)
  have HT0 : Hid _ := T0
  have HB0 : Hid _ := B0
  have HH0 : Hid _ := hpAt_below h B0
  have hb1 : 0 ≤ H.half ∧ H.half ≤ 200 ∧ 0 ≤ H.old ∧ H.old ≤ 400 := by have h1 := N.half1; have h2 := N.half; have h3 := N.old1; have h4 := N.old; exact ⟨by omega, by omega, by omega, by omega⟩
  have ht1 : 0 ≤ H.top ∧ H.top ≤ 200 := by have h1 := N.top; have h2 := N.top1; have := N.half1; omega
  have hm := side_mul N
  have hrl : H.row.length ≤ 1000 := by have := N.len; have := N.half1; have := N.old1; omega
  have w1 : IntKind.i64.wrap (H.side * H.half) = H.side * H.half := by rw [IntKind.wrap_i64]; omega
  have w2 : IntKind.i64.wrap (H.side * H.half + H.top) = H.side * H.half + H.top := by rw [IntKind.wrap_i64]; omega
  have w3 : IntKind.i64.wrap (H.top + s) = H.top + s := by rw [IntKind.wrap_i64]; omega
  have HL8 : Hid (∀ V, HpAt V (.slice a1 H.row.length c1) (.slice a2 H.roots.length c2) (.slice a3 H.mourned.length c3) (.slice a4 H.seen.length c4) H → Calls Tryz.prog 63 #[.slice a1 H.row.length c1, .int .i64 (2 * H.half), .int .i64 (2 * H.half + H.old), .int .i64 s] V fun e w' => e = .returned (.int .i64 (fitV (fitL s (frees H.row (2 * H.half) (2 * H.half + H.old))))) ∧ Below V.heap.size V w') := fun V hV => by
    have q := l8Fit_any hV.1 (by omega) (2 * hf H) (2 * hf H + od H) (by have := N.len; omega) (fit_up N) s
    rw [show ((2 * hf H : Nat) : Int) = 2 * H.half by have := N.half; omega, show ((2 * hf H + od H : Nat) : Int) = 2 * H.half + H.old by have := N.half; have := N.old; omega] at q
    exact q
  obtain ⟨⟨z0, z1, z2, z3, z4⟩, ⟨z5, z6, z7, z8⟩, _⟩ := nine_cells T0
  have FT := HL8.out _ HH0.out
  unfold plcP roomFor
  generalize fitV (fitL s (frees H.row (2 * H.half) (2 * H.half + H.old))) = ft at *
  clear B0 T0 h N
  cases q
  · by_cases ht : H.top + s ≤ H.half
    · rw [if_pos (by simp [ht])]
      go_enter Tryz.func31, Tryz.ntmps31
      go_wp2_with fail
      go_ret
      exact ⟨rfl, HB0.out⟩
    · rw [if_neg (by simp [ht])]
      go_enter Tryz.func31, Tryz.ntmps31
      go_wp2_with (go_at_call 63; refine FT.mono ?_; clear FT; rintro e w2 ⟨rfl, b2⟩; have HBE : Hid _ := HB0.out.trans (b2.mono HB0.out.size); clear b2)
      go_ret
      exact ⟨rfl, HBE.out⟩
  · rw [if_neg (by simp)]
    go_enter Tryz.func31, Tryz.ntmps31
    go_wp2_with (go_at_call 63; refine FT.mono ?_; clear FT; rintro e w2 ⟨rfl, b2⟩; have HBE : Hid _ := HB0.out.trans (b2.mono HB0.out.size); clear b2)
    go_ret
    exact ⟨rfl, HBE.out⟩
set_option maxHeartbeats 8000000 in
theorem sPlaceFor_any {w : World} {vr vo vm vs : Value} {H : Hp} (h : HpAt w vr vo vm vs H) (hs : hpSize H ≤ 1048576) (s : Int) (q : Bool) (hi : I64 s) :
    Calls Tryz.prog 12 #[hpv H vr vo vm vs, .int .i64 s, .bool q] w fun e w' => e = .returned (.int .i64 (plcOk H s q)) ∧ Below w.heap.size w w' := by
  obtain ⟨a1, c1, a2, c2, a3, c3, a4, c4, e1, e2, e3, e4⟩ := hpAt_slices h
  subst e1 e2 e3 e4
  have B0 : Below w.heap.size w (w.alloc (hpb H (.slice a1 H.row.length c1) (.slice a2 H.roots.length c2) (.slice a3 H.mourned.length c3) (.slice a4 H.seen.length c4))) := (Below.refl _ _).alloc (Nat.le_refl _) _
  have T0 := nine_new w H (.slice a1 H.row.length c1) (.slice a2 H.roots.length c2) (.slice a3 H.mourned.length c3) (.slice a4 H.seen.length c4)
  have HT0 : Hid _ := T0
  have HB0 : Hid _ := B0
  have HH0 : Hid _ := hpAt_below h B0
  obtain ⟨⟨z0, z1, z2, z3, z4⟩, ⟨z5, z6, z7, z8⟩, _⟩ := nine_cells T0
  have HK := sHeapOk_any HH0.out hs
  have HI := heads.l1In_any s 2 22
  have hdm : s.fmod 2 = s % 2 := by rw [Int.fmod_eq_emod_of_nonneg _ (by decide)]
  obtain ⟨R, hR⟩ : ∃ R, plcOk H s q = R := ⟨_, rfl⟩
  rw [hR]
  cases dr : heapOk H
  · have e : R = -1 := by rw [← hR]; unfold plcOk; rw [dr]; rfl
    subst e
    rw [dr] at HK
    clear B0 T0 h dr hR
    go_enter Tryz.func12, Tryz.ntmps12
    go_wp2_with (go_at_call 15; refine HK.mono ?_; clear HK; rintro e w2 ⟨rfl, b2⟩; have HBE : Hid _ := HB0.out.trans (b2.mono HB0.out.size); clear b2)
    go_ret
    exact ⟨rfl, HBE.out⟩
  · rw [dr] at HK
    have HPL : Hid (∀ V, HpAt V (.slice a1 H.row.length c1) (.slice a2 H.roots.length c2) (.slice a3 H.mourned.length c3) (.slice a4 H.seen.length c4) H → 2 ≤ s ∧ s ≤ 22 → Calls Tryz.prog 31 #[hpv H (.slice a1 H.row.length c1) (.slice a2 H.roots.length c2) (.slice a3 H.mourned.length c3) (.slice a4 H.seen.length c4), .int .i64 s, .bool q] V fun e w' => e = .returned (.int .i64 (plcP H s q)) ∧ Below V.heap.size V w') := fun V hV h2 => l17Place_any hV (ok_nums dr) s q h2
    have HRR : Hid _ := hR
    have HDR : Hid _ := dr
    clear B0 T0 h dr hR hi
    cases hin : inR 2 22 s
    · have e : R = -1 := by rw [← HRR.out]; unfold plcOk evn; rw [HDR.out, hin]; rfl
      rw [hin] at HI
      subst e
      clear hin
      go_enter Tryz.func12, Tryz.ntmps12
      go_wp2_with (first
        | (go_at_call 15; refine HK.mono ?_; clear HK; rintro e w2 ⟨rfl, b2⟩; have HBE : Hid _ := HB0.out.trans (b2.mono HB0.out.size); clear b2)
        | (go_at_call 30; refine (HI _).mono ?_; clear HI; rintro e w3 ⟨rfl, hw3⟩; rw [hw3]; clear hw3 w3))
      go_ret
      exact ⟨rfl, HBE.out⟩
    · rw [hin] at HI
      have hb : 2 ≤ s ∧ s ≤ 22 := by unfold inR at hin; simpa using hin
      by_cases hz : s % 2 = 0
      · have e : R = plcP H s q := by rw [← HRR.out]; unfold plcOk evn; rw [HDR.out, hin]; simp [hz]
        have hz' : s.tmod 2 = 0 := by rw [Int.tmod_eq_emod_of_nonneg (by omega)]; exact hz
        subst e
        clear hin HRR
        generalize plcP H s q = R at *
        go_enter Tryz.func12, Tryz.ntmps12
        go_wp2_with (first
          | (go_at_call 15; refine HK.mono ?_; clear HK; rintro e w2 ⟨rfl, b2⟩; have HB2 : Hid _ := HB0.out.trans (b2.mono HB0.out.size); have HN2 : Hid _ := nine_below HT0.out b2; have PL := HPL.out _ (hpAt_below HH0.out b2) hb; clear b2 z0 z1 z2 z3 z4 z5 z6 z7 z8; obtain ⟨⟨z0, z1, z2, z3, z4⟩, ⟨z5, z6, z7, z8⟩, _⟩ := nine_cells HN2.out)
          | (go_at_call 30; refine (HI _).mono ?_; clear HI; rintro e w3 ⟨rfl, hw3⟩; rw [hw3]; clear hw3 w3)
          | (go_at_call 31; refine PL.mono ?_; clear PL; rintro e w4 ⟨rfl, b4⟩; have HBE : Hid _ := HB2.out.trans (b4.mono HB2.out.size); clear b4))
        go_ret
        exact ⟨rfl, HBE.out⟩
      · have e : R = -1 := by rw [← HRR.out]; unfold plcOk evn; rw [HDR.out, hin]; simp [hz]
        have hz1 : s % 2 = 1 := by omega
        have hz' : s.tmod 2 = 1 := by rw [Int.tmod_eq_emod_of_nonneg (by omega)]; exact hz1
        subst e
        clear hin HRR
        go_enter Tryz.func12, Tryz.ntmps12
        go_wp2_with (first
          | (go_at_call 15; refine HK.mono ?_; clear HK; rintro e w2 ⟨rfl, b2⟩; have HBE : Hid _ := HB0.out.trans (b2.mono HB0.out.size); clear b2)
          | (go_at_call 30; refine (HI _).mono ?_; clear HI; rintro e w3 ⟨rfl, hw3⟩; rw [hw3]; clear hw3 w3))
        go_ret
        exact ⟨rfl, HBE.out⟩
end Go.Proofs.YthfhjgkpabkeaaaGreat.hp
namespace Go.Proofs.YthfhjgkpabkeaaaGreat.hp
open Go.RowKit rows heads words walks region
set_option maxRecDepth 100000
set_option linter.unusedVariables false
set_option linter.unusedSimpArgs false

theorem fit_bound {H : Hp} (N : Nums H) (s : Int) : -1 ≤ fitV (fitL s (frees H.row (2 * H.half) (2 * H.half + H.old))) ∧ fitV (fitL s (frees H.row (2 * H.half) (2 * H.half + H.old))) ≤ 1000 := by
  cases e : fitL s (frees H.row (2 * H.half) (2 * H.half + H.old)) with
  | none => exact ⟨Int.le_refl _, by decide⟩
  | some m =>
    have := (free_word (fit_mem e)).1
    have := N.len
    have := N.half1
    have := N.old1
    unfold fitV
    simp only
    omega
set_option maxHeartbeats 4000000 in
theorem newSizeOk_any (s : Int) (w : World) : Calls Tryz.prog 33 #[.int .i64 s] w fun e w' => e = .returned (.bool (evn 2 22 s)) ∧ w' = w := by
  have E1 := sizeOf_any 0
  have E2 := sizeOf_any 20
  have E3 := evenWithin_any s 2 22 (by decide)
  rw [show sz 0 = 2 by decide] at E1
  rw [show sz 20 = 22 by decide] at E2
  generalize evn 2 22 s = R at *
  go_enter Tryz.func33, Tryz.ntmps33
  go_wp2_with (first
    | (have hh := E1; clear hh; go_at_call 65; refine (E1 _).mono ?_; clear E1; rintro e w3 ⟨rfl, hw3⟩; rw [hw3]; clear hw3 w3)
    | (have hh := E2; clear hh; go_at_call 65; refine (E2 _).mono ?_; clear E2; rintro e w3 ⟨rfl, hw3⟩; rw [hw3]; clear hw3 w3)
    | (go_at_call 64; refine (E3 _).mono ?_; clear E3; rintro e w3 ⟨rfl, hw3⟩; rw [hw3]; clear hw3 w3))
  go_ret
  exact ⟨rfl, rfl⟩
set_option maxHeartbeats 4000000 in
theorem roomEndP_any {w : World} {H : Hp} (N : Nums H) {a1 a2 a3 a4 : Option Addr} {n1 c1 n2 c2 n3 c3 n4 c4 : Nat} :
    Calls Tryz.prog 100 #[hpv H (.slice a1 n1 c1) (.slice a2 n2 c2) (.slice a3 n3 c3) (.slice a4 n4 c4)] w fun e w' => e = .returned (.int .i64 (H.side * H.half + H.top)) ∧ Below w.heap.size w w' := by
  have HT0 : Hid _ := nine_new w H (.slice a1 n1 c1) (.slice a2 n2 c2) (.slice a3 n3 c3) (.slice a4 n4 c4)
  have HB0 : Hid (Below w.heap.size w (w.alloc (hpb H (.slice a1 n1 c1) (.slice a2 n2 c2) (.slice a3 n3 c3) (.slice a4 n4 c4)))) := (Below.refl _ _).alloc (Nat.le_refl _) _
  obtain ⟨⟨z0, z1, z2, z3, z4⟩, ⟨z5, z6, z7, z8⟩, _⟩ := nine_cells HT0.out
  have hm := side_mul N
  have ht1 : 0 ≤ H.top ∧ H.top ≤ 200 := by have h1 := N.top; have h2 := N.top1; have := N.half1; omega
  have w1 : IntKind.i64.wrap (H.side * H.half) = H.side * H.half := by rw [IntKind.wrap_i64]; omega
  have w2 : IntKind.i64.wrap (H.side * H.half + H.top) = H.side * H.half + H.top := by rw [IntKind.wrap_i64]; omega
  clear N
  go_enter Tryz.func100, Tryz.ntmps100
  go_upto_region 1 with fail
  generalize w.alloc (hpb H (.slice a1 n1 c1) (.slice a2 n2 c2) (.slice a3 n3 c3) (.slice a4 n4 c4)) = X at *
  go_wp2_with fail
  go_ret
  exact ⟨rfl, HB0.out⟩
set_option maxHeartbeats 8000000 in
theorem spotBelow_any {w : World} {H : Hp} (N : Nums H) {a1 a2 a3 a4 : Option Addr} {n1 c1 n2 c2 n3 c3 n4 c4 : Nat} :
    Calls Tryz.prog 66 #[hpv H (.slice a1 n1 c1) (.slice a2 n2 c2) (.slice a3 n3 c3) (.slice a4 n4 c4)] w fun e w' => e = .returned (spR (H.side * H.half + H.top) (H.half - H.top)) ∧ Below w.heap.size w w' := by
  have HT0 : Hid _ := nine_new w H (.slice a1 n1 c1) (.slice a2 n2 c2) (.slice a3 n3 c3) (.slice a4 n4 c4)
  have HB0 : Hid (Below w.heap.size w (w.alloc (hpb H (.slice a1 n1 c1) (.slice a2 n2 c2) (.slice a3 n3 c3) (.slice a4 n4 c4)))) := (Below.refl _ _).alloc (Nat.le_refl _) _
  have hb1 : 0 ≤ H.half ∧ H.half ≤ 200 := by have h1 := N.half1; have h2 := N.half; omega
  have ht1 : 0 ≤ H.top ∧ H.top ≤ 200 := by have h1 := N.top; have h2 := N.top1; have := N.half1; omega
  have w1 : IntKind.i64.wrap (H.half - H.top) = H.half - H.top := by rw [IntKind.wrap_i64]; omega
  have RE : ∀ V, Calls Tryz.prog 100 #[hpv H (.slice a1 n1 c1) (.slice a2 n2 c2) (.slice a3 n3 c3) (.slice a4 n4 c4)] V fun e w' => e = .returned (.int .i64 (H.side * H.half + H.top)) ∧ Below V.heap.size V w' := fun V => roomEndP_any N
  unfold spR
  generalize H.side * H.half + H.top = re at *
  clear N
  obtain ⟨⟨z0, z1, z2, z3, z4⟩, ⟨z5, z6, z7, z8⟩, _⟩ := nine_cells HT0.out
  go_enter Tryz.func66, Tryz.ntmps66
  go_upto_region 1 with fail
  clear z0 z1 z2 z3 z4 z5 z6 z7 z8
  generalize w.alloc (hpb H (.slice a1 n1 c1) (.slice a2 n2 c2) (.slice a3 n3 c3) (.slice a4 n4 c4)) = X at *
  obtain ⟨⟨z0, z1, z2, z3, z4⟩, ⟨z5, z6, z7, z8⟩⟩ := nine_grow HT0.out
  haveI := ext_any X
  have HE : Hid (∀ x' : Ext X.heap.size X, Calls Tryz.prog 100 #[hpv H (.slice a1 n1 c1) (.slice a2 n2 c2) (.slice a3 n3 c3) (.slice a4 n4 c4)] x'.to fun e w'' => e = .returned (.int .i64 re) ∧ ∃ y' : Ext X.heap.size X, w'' = y'.to) := fun x' => calls_grow (Nat.le_refl _) (RE _)
  clear RE
  refine region_grow (n := X.heap.size) (by kernel_rfl) (by kernel_rfl) ?_
  repeat (go_big_quiet_step (first | (go_at_call 100; exact HE.out _)))
  refine wpQuiet_nil ?_
  intro _ hw'
  obtain ⟨x', rfl⟩ := hw'
  have HBE : Hid _ := HB0.out.trans (x'.below.mono HB0.out.size)
  clear z0 z1 z2 z3 z4 z5 z6 z7 z8 HE
  generalize x'.to = W at *
  clear x' this
  go_wp2
  go_ret
  exact ⟨rfl, HBE.out⟩
/-- What spotUpstairs answers. -/
def SpU (ft : Int) (w : World) (e : Ending) (w' : World) : Prop := (∃ n, e = .returned (spF ft n) ∧ ft ≠ -1 ∨ e = .returned spN ∧ ft = -1) ∧ Below w.heap.size w w'
set_option maxHeartbeats 8000000 in
theorem spotUp_any {w : World} {vr vo vm vs : Value} {H : Hp} (hI : HpI H) (h : HpAt w vr vo vm vs H) (N : Nums H) (s : Int) (h2 : 2 ≤ s ∧ s ≤ 22) (hz : s % 2 = 0) :
    Calls Tryz.prog 68 #[hpv H vr vo vm vs, .int .i64 s] w fun e w' => SpU (fitV (fitL s (frees H.row (2 * H.half) (2 * H.half + H.old)))) w e w' := by
  obtain ⟨a1, c1, a2, c2, a3, c3, a4, c4, e1, e2, e3, e4⟩ := hpAt_slices h
  subst e1 e2 e3 e4
  obtain ⟨B0, q0, hX⟩ := hp_all h
  have HT0 : Hid _ := nine_new w H (.slice a1 H.row.length c1) (.slice a2 H.roots.length c2) (.slice a3 H.mourned.length c3) (.slice a4 H.seen.length c4)
  have HB0 : Hid _ := B0
  have HH0 : Hid _ := hX
  have hb1 : 0 ≤ H.half ∧ H.half ≤ 200 ∧ 0 ≤ H.old ∧ H.old ≤ 400 := by have h1 := N.half1; have h2 := N.half; have h3 := N.old1; have h4 := N.old; exact ⟨by omega, by omega, by omega, by omega⟩
  have hrl : H.row.length ≤ 1000 := by have := N.len; have := N.half1; have := N.old1; omega
  have hfb := fit_bound N s
  have HRL : Hid (∀ V, Calls Tryz.prog 58 #[.int .i64 H.half, .int .i64 H.old] V fun e w' => e = .returned (.int .i64 (2 * H.half + H.old)) ∧ w' = V) := fun V => rowLength_int ⟨hb1.1, by omega⟩ ⟨hb1.2.2.1, by omega⟩ V
  have HBF : Hid (∀ V, IntsAt V (.slice a1 H.row.length c1) H.row → Calls Tryz.prog 101 #[.slice a1 H.row.length c1, .int .i64 (2 * H.half), .int .i64 (2 * H.half + H.old), .int .i64 s] V fun e w' => e = .returned (.int .i64 (fitV (fitL s (frees H.row (2 * H.half) (2 * H.half + H.old))))) ∧ Below V.heap.size V w') := fun V hV => by
    have q := implBestFit V _ H.row (2 * H.half) (2 * H.half + H.old) s hV (by omega) hI.2.1 ⟨by omega, by omega⟩ ⟨by omega, by omega⟩ ⟨by omega, by omega⟩
    rw [show bestFit H.row (2 * H.half) (2 * H.half + H.old) s = fitV (fitL s (frees H.row (2 * H.half) (2 * H.half + H.old))) from by unfold bestFit; rw [if_pos ⟨h2.1, hz⟩]] at q
    exact q
  have HCA : Hid (∀ V, IntsAt V (.slice a1 H.row.length c1) H.row → Calls Tryz.prog 102 #[.slice a1 H.row.length c1, .int .i64 (fitV (fitL s (frees H.row (2 * H.half) (2 * H.half + H.old))))] V fun e w' => e = .returned (.int .i64 (chunkAt H.row (fitV (fitL s (frees H.row (2 * H.half) (2 * H.half + H.old)))))) ∧ Below V.heap.size V w') := fun V hV => implChunkAt V _ H.row _ hV (by omega) hI.2.1 ⟨by omega, by omega⟩
  obtain ⟨⟨z0, z1, z2, z3, z4⟩, ⟨z5, z6, z7, z8⟩, _⟩ := nine_cells HT0.out
  generalize fitV (fitL s (frees H.row (2 * H.half) (2 * H.half + H.old))) = ft at *
  generalize chunkAt H.row ft = ch at *
  clear N h B0 q0 hX hI hz
  go_enter Tryz.func68, Tryz.ntmps68
  go_upto_region 1 with fail
  clear z0 z1 z2 z3 z4 z5 z6 z7 z8
  generalize w.alloc (hpb H (.slice a1 H.row.length c1) (.slice a2 H.roots.length c2) (.slice a3 H.mourned.length c3) (.slice a4 H.seen.length c4)) = X at *
  obtain ⟨⟨z0, z1, z2, z3, z4⟩, ⟨z5, z6, z7, z8⟩⟩ := nine_grow HT0.out
  haveI := ext_any X
  have HE1 : Hid (∀ x' : Ext X.heap.size X, Calls Tryz.prog 58 #[.int .i64 H.half, .int .i64 H.old] x'.to fun e w'' => e = .returned (.int .i64 (2 * H.half + H.old)) ∧ ∃ y' : Ext X.heap.size X, w'' = y'.to) := fun x' => (HRL.out _).mono fun e w' ⟨he, hw⟩ => ⟨he, x', hw⟩
  have HE2 : Hid (∀ x' : Ext X.heap.size X, Calls Tryz.prog 101 #[.slice a1 H.row.length c1, .int .i64 (2 * H.half), .int .i64 (2 * H.half + H.old), .int .i64 s] x'.to fun e w'' => e = .returned (.int .i64 ft) ∧ ∃ y' : Ext X.heap.size X, w'' = y'.to) := fun x' => calls_grow (Nat.le_refl _) (HBF.out _ (intsAt_below HH0.out.1 x'.below))
  clear HRL HBF
  refine region_grow (n := X.heap.size) (by kernel_rfl) (by kernel_rfl) ?_
  repeat (go_big_quiet_step (first | (go_at_call 58; exact HE1.out _) | (go_at_call 101; exact HE2.out _)))
  refine wpQuiet_nil ?_
  intro _ hw'
  obtain ⟨x', rfl⟩ := hw'
  have HBE : Hid _ := HB0.out.trans (x'.below.mono HB0.out.size)
  have HTE : Hid _ := nine_below HT0.out x'.below
  have HIE : Hid _ := intsAt_below HH0.out.1 x'.below
  clear z0 z1 z2 z3 z4 z5 z6 z7 z8 HE1 HE2 HT0 HH0 HB0
  generalize x'.to = W at *
  clear x' this
  by_cases hf : ft = -1
  · have hf' : (ft == -1) = true := by rw [hf]; rfl
    go_wp2_with fail
    go_ret
    exact ⟨⟨0, .inr ⟨rfl, hf⟩⟩, HBE.out⟩
  · have hf' : (ft == -1) = false := by simpa using hf
    obtain ⟨⟨z0, z1, z2, z3, z4⟩, ⟨z5, z6, z7, z8⟩, _⟩ := nine_cells HTE.out
    have CA := HCA.out _ HIE.out
    go_wp2_with (go_at_call 102; refine CA.mono ?_; clear CA; rintro e w4 ⟨rfl, b4⟩; have HB4 : Hid _ := HBE.out.trans (b4.mono HBE.out.size); clear b4)
    go_ret
    exact ⟨⟨ch, .inl ⟨rfl, hf⟩⟩, HB4.out⟩
/-- What spotFor answers. -/
def SpA (H : Hp) (s : Int) (q : Bool) (w : World) (e : Ending) (w' : World) : Prop := (∃ sp, e = .returned sp ∧ ((roomFor H s q = true ∧ sp = spR (H.side * H.half + H.top) (H.half - H.top)) ∨ (roomFor H s q = false ∧ plcP H s q ≠ -1 ∧ ∃ n, sp = spF (plcP H s q) n) ∨ (roomFor H s q = false ∧ plcP H s q = -1 ∧ sp = spN))) ∧ Below w.heap.size w w'
set_option maxHeartbeats 8000000 in
theorem spotFor_any {w : World} {vr vo vm vs : Value} {H : Hp} (hI : HpI H) (h : HpAt w vr vo vm vs H) (N : Nums H) (s : Int) (q : Bool) (h2 : 2 ≤ s ∧ s ≤ 22) (hz : s % 2 = 0) :
    Calls Tryz.prog 34 #[hpv H vr vo vm vs, .int .i64 s, .bool q] w fun e w' => SpA H s q w e w' := by
  obtain ⟨a1, c1, a2, c2, a3, c3, a4, c4, e1, e2, e3, e4⟩ := hpAt_slices h
  subst e1 e2 e3 e4
  obtain ⟨B0, q0, hX⟩ := hp_all h
  have HT0 : Hid _ := nine_new w H (.slice a1 H.row.length c1) (.slice a2 H.roots.length c2) (.slice a3 H.mourned.length c3) (.slice a4 H.seen.length c4)
  have HB0 : Hid _ := B0
  have HH0 : Hid _ := hX
  have SB : ∀ V, Calls Tryz.prog 66 #[hpv H (.slice a1 H.row.length c1) (.slice a2 H.roots.length c2) (.slice a3 H.mourned.length c3) (.slice a4 H.seen.length c4)] V fun e w' => e = .returned (spR (H.side * H.half + H.top) (H.half - H.top)) ∧ Below V.heap.size V w' := fun V => spotBelow_any N
  have TK := takesRoom_any (H.side * H.half + H.top) (H.half - H.top) s
  have SU : Hid (∀ V, HpAt V (.slice a1 H.row.length c1) (.slice a2 H.roots.length c2) (.slice a3 H.mourned.length c3) (.slice a4 H.seen.length c4) H → Calls Tryz.prog 68 #[hpv H (.slice a1 H.row.length c1) (.slice a2 H.roots.length c2) (.slice a3 H.mourned.length c3) (.slice a4 H.seen.length c4), .int .i64 s] V fun e w' => SpU (fitV (fitL s (frees H.row (2 * H.half) (2 * H.half + H.old)))) V e w') := fun V hV => spotUp_any hI hV N s h2 hz
  have HR1 : Hid (roomFor H s q = true → q = false ∧ s ≤ H.half - H.top) := fun e => by
    unfold roomFor at e
    simp at e
    exact ⟨e.1, by omega⟩
  have HR0 : Hid (roomFor H s q = false → plcP H s q = fitV (fitL s (frees H.row (2 * H.half) (2 * H.half + H.old)))) := fun e => by unfold plcP; rw [e]; rfl
  have HRQ : Hid (roomFor H s q = false → q = false → ¬ s ≤ H.half - H.top) := fun e hq => by
    unfold roomFor at e
    rw [hq] at e
    simp at e
    omega
  obtain ⟨⟨z0, z1, z2, z3, z4⟩, ⟨z5, z6, z7, z8⟩, _⟩ := nine_cells HT0.out
  generalize fitV (fitL s (frees H.row (2 * H.half) (2 * H.half + H.old))) = ft at *
  have HSA : Hid (∀ e w', SpA H s q w e w' = SpA H s q w e w') := fun _ _ => rfl
  generalize hsr : spR (H.side * H.half + H.top) (H.half - H.top) = sr at *
  have HSR : Hid _ := hsr
  clear hsr N h B0 q0 hX hI HSA
  cases rf : roomFor H s q
  · have HE0 : Hid _ := HR0.out rf
    have HN0 : Hid _ := HRQ.out rf
    have HRF : Hid _ := rf
    clear rf
    have HFIN : Hid (∀ e w4 V, SpU ft V e w4 → Below w.heap.size w V → ∃ sp, e = .returned sp ∧ ((roomFor H s q = true ∧ sp = sr) ∨ (roomFor H s q = false ∧ plcP H s q ≠ -1 ∧ ∃ n, sp = spF (plcP H s q) n) ∨ (roomFor H s q = false ∧ plcP H s q = -1 ∧ sp = spN)) ∧ Below w.heap.size w w4) := by
      rintro e w4 V ⟨⟨n, hh⟩, hb⟩ hV
      rcases hh with ⟨rfl, h1⟩ | ⟨rfl, h1⟩
      · exact ⟨_, rfl, .inr (.inl ⟨HRF.out, by rw [HE0.out]; exact h1, n, by rw [HE0.out]⟩), hV.trans (hb.mono hV.size)⟩
      · exact ⟨_, rfl, .inr (.inr ⟨HRF.out, by rw [HE0.out]; exact h1, rfl⟩), hV.trans (hb.mono hV.size)⟩
    cases q
    · have hd : decide (s ≤ H.half - H.top) = false := by simpa using HN0.out rfl
      rw [hd] at TK
      clear hd
      go_enter Tryz.func34, Tryz.ntmps34
      go_wp2_with (first
        | (go_at_call 66; refine (SB _).mono ?_; clear SB z0 z1 z2 z3 z4 z5 z6 z7 z8; rintro e w2 ⟨rfl, b2⟩; have HB2 : Hid _ := HB0.out.trans (b2.mono HB0.out.size); have HN2 : Hid _ := nine_below HT0.out b2; have HH2 : Hid _ := hpAt_below HH0.out b2; clear b2)
        | (go_at_call 67; refine (TK _).mono ?_; clear TK; rintro e w3 ⟨rfl, b3⟩; have HB3 : Hid _ := HB2.out.trans (b3.mono HB2.out.size); have SUP := SU.out _ (hpAt_below HH2.out b3); obtain ⟨⟨z0, z1, z2, z3, z4⟩, ⟨z5, z6, z7, z8⟩, _⟩ := nine_cells (nine_below HN2.out b3); clear b3)
        | (go_at_call 68; refine SUP.mono ?_; clear SUP z0 z1 z2 z3 z4 z5 z6 z7 z8; rintro e w4 hsu; obtain ⟨sp, rfl, hsp, hb4⟩ := HFIN.out e w4 _ hsu HB3.out; have HSP : Hid _ := hsp; have HB4 : Hid _ := hb4; clear hsp hb4 hsu))
      go_ret
      exact ⟨⟨_, rfl, by rw [HSR.out]; exact HSP.out⟩, HB4.out⟩
    · go_enter Tryz.func34, Tryz.ntmps34
      go_wp2_with (first
        | (go_at_call 66; refine (SB _).mono ?_; clear SB z0 z1 z2 z3 z4 z5 z6 z7 z8; rintro e w2 ⟨rfl, b2⟩; have HB3 : Hid _ := HB0.out.trans (b2.mono HB0.out.size); have HN2 : Hid _ := nine_below HT0.out b2; have HH2 : Hid _ := hpAt_below HH0.out b2; have SUP := SU.out _ HH2.out; obtain ⟨⟨z0, z1, z2, z3, z4⟩, ⟨z5, z6, z7, z8⟩, _⟩ := nine_cells HN2.out; clear b2)
        | (go_at_call 68; refine SUP.mono ?_; clear SUP z0 z1 z2 z3 z4 z5 z6 z7 z8; rintro e w4 hsu; obtain ⟨sp, rfl, hsp, hb4⟩ := HFIN.out e w4 _ hsu HB3.out; have HSP : Hid _ := hsp; have HB4 : Hid _ := hb4; clear hsp hb4 hsu))
      go_ret
      exact ⟨⟨_, rfl, by rw [HSR.out]; exact HSP.out⟩, HB4.out⟩
  · obtain ⟨hq, hs⟩ := HR1.out rf
    have hd : decide (s ≤ H.half - H.top) = true := decide_eq_true hs
    have HRF : Hid _ := rf
    rw [hd] at TK
    clear hd rf hs
    subst hq
    go_enter Tryz.func34, Tryz.ntmps34
    go_wp2_with (first
      | (go_at_call 66; refine (SB _).mono ?_; clear SB z0 z1 z2 z3 z4 z5 z6 z7 z8; rintro e w2 ⟨rfl, b2⟩; have HB2 : Hid _ := HB0.out.trans (b2.mono HB0.out.size); clear b2)
      | (go_at_call 67; refine (TK _).mono ?_; clear TK; rintro e w3 ⟨rfl, b3⟩; have HB3 : Hid _ := HB2.out.trans (b3.mono HB2.out.size); clear b3))
    go_ret
    exact ⟨⟨_, rfl, .inl ⟨HRF.out, HSR.out.symm⟩⟩, HB3.out⟩
set_option maxHeartbeats 8000000 in
theorem implPlaceFor {H : Hp} (hI : HpI H) (s : Int) (q : Bool) (w : World) (vr vo vm vs : Value) (h : HpAt w vr vo vm vs H) (hs : hpSize H ≤ 1048576) :
    Calls Tryz.prog 13 #[hpv H vr vo vm vs, .int .i64 s, .bool q] w fun e w' => e = .returned (.int .i64 (plcOk H s q)) ∧ Below w.heap.size w w' := by
  obtain ⟨a1, c1, a2, c2, a3, c3, a4, c4, e1, e2, e3, e4⟩ := hpAt_slices h
  subst e1 e2 e3 e4
  obtain ⟨B0, q0, hX⟩ := hp_all h
  have HT0 : Hid _ := nine_new w H (.slice a1 H.row.length c1) (.slice a2 H.roots.length c2) (.slice a3 H.mourned.length c3) (.slice a4 H.seen.length c4)
  have HB0 : Hid _ := B0
  have HH0 : Hid _ := hX
  have HK := implHeapOk hI _ _ _ _ _ hX hs
  have NS := newSizeOk_any s
  have HII : Hid _ := hI
  obtain ⟨⟨z0, z1, z2, z3, z4⟩, ⟨z5, z6, z7, z8⟩, _⟩ := nine_cells HT0.out
  obtain ⟨R, hR⟩ : ∃ R, plcOk H s q = R := ⟨_, rfl⟩
  rw [hR]
  cases dr : heapOk H
  · have e : R = -1 := by rw [← hR]; unfold plcOk; rw [dr]; rfl
    subst e
    rw [dr] at HK
    clear B0 h dr hR q0 hX hI
    go_enter Tryz.func13, Tryz.ntmps13
    go_wp2_with (go_at_call 32; refine HK.mono ?_; clear HK; rintro e w2 ⟨rfl, b2⟩; have HBE : Hid _ := HB0.out.trans (b2.mono HB0.out.size); clear b2)
    go_ret
    exact ⟨rfl, HBE.out⟩
  · rw [dr] at HK
    have HNN : Hid _ := ok_nums dr
    cases hev : evn 2 22 s
    · have e : R = -1 := by rw [← hR]; unfold plcOk; rw [dr, hev]; rfl
      rw [hev] at NS
      subst e
      clear B0 h dr hR q0 hX hI hev
      go_enter Tryz.func13, Tryz.ntmps13
      go_wp2_with (first
        | (go_at_call 32; refine HK.mono ?_; clear HK; rintro e w2 ⟨rfl, b2⟩; have HBE : Hid _ := HB0.out.trans (b2.mono HB0.out.size); clear b2)
        | (go_at_call 33; refine (NS _).mono ?_; clear NS; rintro e w3 ⟨rfl, hw3⟩; rw [hw3]; clear hw3 w3))
      go_ret
      exact ⟨rfl, HBE.out⟩
    · have hb : (2 ≤ s ∧ s ≤ 22) ∧ s % 2 = 0 := by unfold evn inR at hev; simpa using hev
      have HRE : Hid (plcP H s q = R) := by show _ = _; rw [← hR]; unfold plcOk; rw [dr, hev]; rfl
      rw [hev] at NS
      have SF : Hid (∀ V, HpAt V (.slice a1 H.row.length c1) (.slice a2 H.roots.length c2) (.slice a3 H.mourned.length c3) (.slice a4 H.seen.length c4) H → Calls Tryz.prog 34 #[hpv H (.slice a1 H.row.length c1) (.slice a2 H.roots.length c2) (.slice a3 H.mourned.length c3) (.slice a4 H.seen.length c4), .int .i64 s, .bool q] V fun e w' => SpA H s q V e w') := fun V hV => spotFor_any HII.out hV HNN.out s q hb.1 hb.2
      have HPE : Hid (roomFor H s q = true → H.side * H.half + H.top = R) := fun e => by rw [← HRE.out]; unfold plcP; rw [if_pos e]
      clear B0 h dr hR q0 hX hI hev hb HNN
      cases hrf : roomFor H s q
      · by_cases hp : plcP H s q = -1
        · have e : R = -1 := HRE.out.symm.trans hp
          subst e
          have HP : Hid _ := hp
          have HF : Hid _ := hrf
          replace SF : Hid (∀ V, HpAt V (.slice a1 H.row.length c1) (.slice a2 H.roots.length c2) (.slice a3 H.mourned.length c3) (.slice a4 H.seen.length c4) H → Calls Tryz.prog 34 #[hpv H (.slice a1 H.row.length c1) (.slice a2 H.roots.length c2) (.slice a3 H.mourned.length c3) (.slice a4 H.seen.length c4), .int .i64 s, .bool q] V fun e w' => e = .returned (.iface 117 (.agg #[])) ∧ Below V.heap.size V w') := fun V hV => (SF.out V hV).mono fun e w' ⟨⟨sp, he, hsp⟩, hb⟩ => ⟨hsp.elim (fun h => absurd (HF.out.symm.trans h.1) (by decide)) (fun h => h.elim (fun h => absurd HP.out h.2.1) (fun h => by rw [he, h.2.2]; rfl)), hb⟩
          have m1 := noneStart (.agg #[])
          have ST := noneStart_any
          clear hp hrf HRE HPE
          go_enter Tryz.func13, Tryz.ntmps13
          go_wp2_with (first
            | (go_at_call 32; refine HK.mono ?_; clear HK; rintro e w2 ⟨rfl, b2⟩; have HB2 : Hid _ := HB0.out.trans (b2.mono HB0.out.size); have HN2 : Hid _ := nine_below HT0.out b2; have SP := SF.out _ (hpAt_below HH0.out b2); clear b2 z0 z1 z2 z3 z4 z5 z6 z7 z8; obtain ⟨⟨z0, z1, z2, z3, z4⟩, ⟨z5, z6, z7, z8⟩, _⟩ := nine_cells HN2.out)
            | (go_at_call 33; refine (NS _).mono ?_; clear NS; rintro e w3 ⟨rfl, hw3⟩; rw [hw3]; clear hw3 w3)
            | (go_at_call 34; refine SP.mono ?_; clear SP z0 z1 z2 z3 z4 z5 z6 z7 z8; rintro e w4 ⟨rfl, b4⟩; have HB4 : Hid _ := HB2.out.trans (b4.mono HB2.out.size); clear b4)
            | (go_at_call 175; refine (ST _).mono ?_; clear ST; rintro e w5 ⟨rfl, b5⟩; have HB5 : Hid _ := HB4.out.trans (b5.mono HB4.out.size); clear b5))
          go_ret
          exact ⟨rfl, HB5.out⟩
        · have e : plcP H s q = R := HRE.out
          have HP : Hid _ := hp
          have HF : Hid _ := hrf
          have HE : Hid _ := e
          replace SF : Hid (∀ V, HpAt V (.slice a1 H.row.length c1) (.slice a2 H.roots.length c2) (.slice a3 H.mourned.length c3) (.slice a4 H.seen.length c4) H → Calls Tryz.prog 34 #[hpv H (.slice a1 H.row.length c1) (.slice a2 H.roots.length c2) (.slice a3 H.mourned.length c3) (.slice a4 H.seen.length c4), .int .i64 s, .bool q] V fun e w' => (∃ n, e = .returned (.iface 119 (.agg #[.int .i64 R, .int .i64 n]))) ∧ Below V.heap.size V w') := fun V hV => (SF.out V hV).mono fun e w' ⟨⟨sp, he, hsp⟩, hb⟩ => ⟨hsp.elim (fun h => absurd (HF.out.symm.trans h.1) (by decide)) (fun h => h.elim (fun h => h.2.2.elim fun n hn => ⟨n, by rw [he, hn, HE.out]; rfl⟩) (fun h => absurd h.2.1 HP.out)), hb⟩
          clear hp hrf HRE HPE e
          go_enter Tryz.func13, Tryz.ntmps13
          go_wp2_with (first
            | (go_at_call 32; refine HK.mono ?_; clear HK; rintro e w2 ⟨rfl, b2⟩; have HB2 : Hid _ := HB0.out.trans (b2.mono HB0.out.size); have HN2 : Hid _ := nine_below HT0.out b2; have SP := SF.out _ (hpAt_below HH0.out b2); clear b2 z0 z1 z2 z3 z4 z5 z6 z7 z8; obtain ⟨⟨z0, z1, z2, z3, z4⟩, ⟨z5, z6, z7, z8⟩, _⟩ := nine_cells HN2.out)
            | (go_at_call 33; refine (NS _).mono ?_; clear NS; rintro e w3 ⟨rfl, hw3⟩; rw [hw3]; clear hw3 w3)
            | (go_at_call 34; refine SP.mono ?_; clear SP z0 z1 z2 z3 z4 z5 z6 z7 z8; rintro e w4 ⟨⟨n, rfl⟩, b4⟩; have HB4 : Hid _ := HB2.out.trans (b4.mono HB2.out.size); clear b4; have m1 := freeStart (.agg #[.int .i64 R, .int .i64 n]); have ST := freeStart_any R n)
            | (go_at_call 177; refine (ST _).mono ?_; clear ST; rintro e w5 ⟨rfl, b5⟩; have HB5 : Hid _ := HB4.out.trans (b5.mono HB4.out.size); clear b5))
          go_ret
          exact ⟨rfl, HB5.out⟩
      · have e : H.side * H.half + H.top = R := HPE.out hrf
        have HE : Hid _ := e
        have HF : Hid _ := hrf
        replace SF : Hid (∀ V, HpAt V (.slice a1 H.row.length c1) (.slice a2 H.roots.length c2) (.slice a3 H.mourned.length c3) (.slice a4 H.seen.length c4) H → Calls Tryz.prog 34 #[hpv H (.slice a1 H.row.length c1) (.slice a2 H.roots.length c2) (.slice a3 H.mourned.length c3) (.slice a4 H.seen.length c4), .int .i64 s, .bool q] V fun e w' => (∃ n, e = .returned (.iface 112 (.agg #[.int .i64 R, .int .i64 n]))) ∧ Below V.heap.size V w') := fun V hV => (SF.out V hV).mono fun e w' ⟨⟨sp, he, hsp⟩, hb⟩ => ⟨hsp.elim (fun h => ⟨H.half - H.top, by rw [he, h.2, ← HE.out]; rfl⟩) (fun h => h.elim (fun h => absurd (HF.out.symm.trans h.1) (by decide)) (fun h => absurd (HF.out.symm.trans h.1) (by decide))), hb⟩
        clear hrf HRE HPE e
        go_enter Tryz.func13, Tryz.ntmps13
        go_wp2_with (first
          | (go_at_call 32; refine HK.mono ?_; clear HK; rintro e w2 ⟨rfl, b2⟩; have HB2 : Hid _ := HB0.out.trans (b2.mono HB0.out.size); have HN2 : Hid _ := nine_below HT0.out b2; have SP := SF.out _ (hpAt_below HH0.out b2); clear b2 z0 z1 z2 z3 z4 z5 z6 z7 z8; obtain ⟨⟨z0, z1, z2, z3, z4⟩, ⟨z5, z6, z7, z8⟩, _⟩ := nine_cells HN2.out)
          | (go_at_call 33; refine (NS _).mono ?_; clear NS; rintro e w3 ⟨rfl, hw3⟩; rw [hw3]; clear hw3 w3)
          | (go_at_call 34; refine SP.mono ?_; clear SP z0 z1 z2 z3 z4 z5 z6 z7 z8; rintro e w4 ⟨⟨n, rfl⟩, b4⟩; have HB4 : Hid _ := HB2.out.trans (b4.mono HB2.out.size); clear b4; have m1 := roomStart (.agg #[.int .i64 R, .int .i64 n]); have ST := roomStart_any R n)
          | (go_at_call 172; refine (ST _).mono ?_; clear ST; rintro e w5 ⟨rfl, b5⟩; have HB5 : Hid _ := HB4.out.trans (b5.mono HB4.out.size); clear b5))
        go_ret
        exact ⟨rfl, HB5.out⟩
end Go.Proofs.YthfhjgkpabkeaaaGreat.hp
