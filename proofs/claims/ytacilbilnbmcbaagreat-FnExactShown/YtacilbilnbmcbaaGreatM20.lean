/-
  Chapter 10 as the specification has it: Follow. Chapter 10 as the specification has it: what a word shows.
-/
import Derived.Test.YtacilbilnbmcbaaGreatM19
import Derived.Test.YtacilbilnbmcbaaGreatM13
namespace Go.Proofs.YtacilbilnbmcbaaGreat.hp
open Go.RowKit rows heads words walks region
set_option maxRecDepth 100000
set_option linter.unusedVariables false
set_option linter.unusedSimpArgs false

set_option maxHeartbeats 8000000 in
theorem l10Follow_any {w : World} {vr vo vm vs : Value} {H : Hp} (h : HpAt w vr vo vm vs H) {ps : List Int} (R : Rt H ps) (x : Int) (hx : wordIn H ps x = true) :
    Calls Tryz.prog 32 #[hpv H vr vo vm vs, .int .i64 x] w fun e w' => e = .returned (.int .i64 (fol H x)) ∧ Below w.heap.size w w' := by
  obtain ⟨a1, c1, a2, c2, a3, c3, a4, c4, e1, e2, e3, e4⟩ := hpAt_slices h
  subst e1 e2 e3 e4
  have B0 : Below w.heap.size w (w.alloc (hpb H (.slice a1 H.row.length c1) (.slice a2 H.roots.length c2) (.slice a3 H.mourned.length c3) (.slice a4 H.seen.length c4))) := (Below.refl _ _).alloc (Nat.le_refl _) _
  have HB0 : Hid _ := B0
  have HT0 : Hid _ := nine_new w H (.slice a1 H.row.length c1) (.slice a2 H.roots.length c2) (.slice a3 H.mourned.length c3) (.slice a4 H.seen.length c4)
  have HH : Hid _ := h
  obtain ⟨A, hA⟩ : ∃ A, fol H x = A := ⟨_, rfl⟩
  rw [hA]
  have HA : Hid _ := hA
  have HR : Hid _ := R
  have HX : Hid _ := hx
  clear h B0 hA R hx
  go_enter Tryz.func32, Tryz.ntmps32
  go_wp2_with fail
  go_loopw [1, 5, 6] (fun u _ _ wz => ∃ y : Int, u = .int .i64 y ∧ wordIn H ps y = true ∧ fol H y = A ∧ Nine wz w.heap.size 31 (.int .i64 H.half) (.int .i64 H.old) (.slice a1 H.row.length c1) (.int .i64 H.side) (.int .i64 H.top) (.slice a2 H.roots.length c2) (.slice a3 H.mourned.length c3) (.slice a4 H.seen.length c4) (.int .i64 H.seed) ∧ Below w.heap.size w wz) (fun u _ _ _ => rk H (intOf u))
  case atStart => exact ⟨x, rfl, HX.out, HA.out, HT0.out, HB0.out⟩
  case round =>
    obtain ⟨y, rfl, hy, hF, hT, hB⟩ := hrel
    clear HT0 HB0 HA HX
    obtain ⟨⟨z0, z1, z2, z3, z4⟩, ⟨z5, z6, z7, z8⟩, _⟩ := nine_cells hT
    have sr := hB.size
    have SA := sAddrOf_any y
    have HT : Hid _ := hT
    have HB : Hid _ := hB
    have HF : Hid _ := hF
    cases dA : isA y
    · have HE : Hid (A = y) := by show _ = _; rw [← hF]; exact fol_stop (by unfold toNote; rw [dA]; rfl)
      rw [dA] at SA
      clear hT hB hF hy dA
      go_wp2_with (go_at_call 31; refine (SA _).mono ?_; clear SA; rintro e w3 ⟨rfl, hw3⟩; rw [hw3]; clear hw3 w3)
      go_ret
      exact ⟨by rw [HE.out]; rfl, HB.out⟩
    · rw [dA] at SA
      obtain ⟨hm, _⟩ := word_place hy dA
      obtain ⟨j, hj, hjl, _⟩ := HR.out.plc _ hm
      have hI := (hpAt_below HH.out hB).1
      have L4 := l4Head_any hI j hjl
      unfold hw at L4
      have HST : Hid (toNote H y = false → A = y) := fun e => by rw [← hF]; exact fol_stop e
      have HNT : Hid (toNote H y = true → _) := fun e => HR.out.note hy e
      have htn : toNote H y = (uF (H.row.getD j 0) == 7) := by unfold toNote ntH; rw [dA, hj, Int.toNat_natCast]; rfl
      have hnw : noteW H y = H.row.getD (j + 1) 0 := by unfold noteW; rw [hj, Int.toNat_natCast]
      simp only [hnw, hj, Int.toNat_natCast] at HNT
      rw [hj] at SA
      generalize uF (H.row.getD j 0) = f at *
      generalize uS (H.row.getD j 0) = s at *
      generalize uC (H.row.getD j 0) = c at *
      generalize uH (H.row.getD j 0) = g at *
      generalize uP (H.row.getD j 0) = p0 at *
      generalize uM (H.row.getD j 0) = m at *
      have FF := field_format s f c g p0 m
      by_cases h7 : f = 7
      · obtain ⟨hj1, n2, n3, n4, n5⟩ := HNT.out (by rw [htn, h7]; rfl)
        subst h7
        obtain ⟨a', c', e', _, _, _, hcc⟩ := hI
        have e1 : a1 = a' := by injection e'
        subst e1
        obtain ⟨b, off, rfl, hb, hcc⟩ := hcc (by omega)
        have x1 := hcc (j + 1) hj1
        have HN : Hid (wordIn H ps (H.row.getD (j + 1) 0) = true ∧ fol H (H.row.getD (j + 1) 0) = A ∧ rk H (H.row.getD (j + 1) 0) < rk H y) := ⟨n2, by rw [← n4]; exact hF, n5⟩
        generalize H.row.getD (j + 1) 0 = z at *
        have hlen := HR.out.len
        have hj0 : j ≤ 1000 := by omega
        have hj1' : ((j : Int) + 1).toNat = j + 1 := by omega
        have hj2 : (0 : Int) ≤ (j : Int) + 1 := by omega
        have hj3 : (j : Int) + 1 < (H.row.length : Int) := by omega
        clear hT hB hF hy hcc e' htn hnw HST HNT n2 n3 n4 n5 dA hm hj hjl
        go_wp2_with (first
          | (go_at_call 31; refine (SA _).mono ?_; clear SA; rintro e w3 ⟨rfl, hw3⟩; rw [hw3]; clear hw3 w3)
          | (go_at_call 34; refine L4.mono ?_; clear L4; rintro e w2 ⟨rfl, b2⟩; have T2 := nine_below HT.out b2; have x2 := (b2.cell (p := ⟨b, off + (j + 1), none⟩) hb).trans x1; clear z0 z1 z2 z3 z4 z5 z6 z7 z8 x1; obtain ⟨⟨z0, z1, z2, z3, z4⟩, ⟨z5, z6, z7, z8⟩, _⟩ := nine_cells T2; have HT2 : Hid _ := T2; have HB2 : Hid _ := HB.out.trans (b2.mono sr); clear b2 T2))
        exact ⟨⟨z, rfl, HN.out.1, HN.out.2.1, HT2.out, HB2.out⟩, HN.out.2.2⟩
      · have h7' : (f != 7) = true := by simp [h7]
        have HE : Hid (A = y) := HST.out (by rw [htn]; simpa using h7)
        clear hT hB hF hy htn hnw HST HNT dA hm hj hjl hI
        go_wp2_with (first
          | (go_at_call 31; refine (SA _).mono ?_; clear SA; rintro e w3 ⟨rfl, hw3⟩; rw [hw3]; clear hw3 w3)
          | (go_at_call 34; refine L4.mono ?_; clear L4; rintro e w2 ⟨rfl, b2⟩; have HB2 : Hid _ := HB.out.trans (b2.mono sr); clear b2))
        go_ret
        exact ⟨by rw [HE.out]; rfl, HB2.out⟩
end Go.Proofs.YtacilbilnbmcbaaGreat.hp
namespace Go.Proofs.YtacilbilnbmcbaaGreat.hp
open Go.RowKit rows heads words walks region
set_option maxRecDepth 100000
set_option linter.unusedVariables false
set_option linter.unusedSimpArgs false

set_option maxHeartbeats 16000000 in
theorem l10Ref_any {w : World} {vr vo vm vs : Value} {H : Hp} (h : HpAt w vr vo vm vs H) {ps : List Int} (R : Rt H ps) {oa : Option Addr} {oc : Nat} {L : List Int} (hL : IntsAt w (.slice oa L.length oc) L) (hl : L.length ≤ 1000) (x : Int) (hx : wordIn H ps x = true) (ht : ∀ a, tgt H x = some a → a ∈ L) :
    Calls Tryz.prog 35 #[hpv H vr vo vm vs, .slice oa L.length oc, .int .i64 x] w fun e w' => e = .returned (gr.rv (refW H L x)) ∧ Below w.heap.size w w' := by
  obtain ⟨a1, c1, a2, c2, a3, c3, a4, c4, e1, e2, e3, e4⟩ := hpAt_slices h
  subst e1 e2 e3 e4
  have B1 : Below w.heap.size w ((w.alloc (hpb H (.slice a1 H.row.length c1) (.slice a2 H.roots.length c2) (.slice a3 H.mourned.length c3) (.slice a4 H.seen.length c4))).alloc (.cells #[.int .i64 0, .int .i64 0] 65)) := ((Below.refl _ _).alloc (Nat.le_refl _) _).alloc (by simp) _
  have HALL : Hid (∃ X, X = (w.alloc (hpb H (.slice a1 H.row.length c1) (.slice a2 H.roots.length c2) (.slice a3 H.mourned.length c3) (.slice a4 H.seen.length c4))).alloc (.cells #[.int .i64 0, .int .i64 0] 65) ∧ X.heap[w.heap.size]? = some (hpb H (.slice a1 H.row.length c1) (.slice a2 H.roots.length c2) (.slice a3 H.mourned.length c3) (.slice a4 H.seen.length c4)) ∧ X.heap[w.heap.size + 1]? = some (gr.rb (0, 0)) ∧ Below w.heap.size w X) := ⟨_, rfl, heap_alloc2_old _ _ _, heap_alloc2_new _ _ _, B1⟩
  have HFO : Hid (∀ V, Below w.heap.size w V → Calls Tryz.prog 32 #[hpv H (.slice a1 H.row.length c1) (.slice a2 H.roots.length c2) (.slice a3 H.mourned.length c3) (.slice a4 H.seen.length c4), .int .i64 x] V fun e w' => e = .returned (.int .i64 (fol H x)) ∧ Below V.heap.size V w') := fun V hV => l10Follow_any (hpAt_below h hV) R x hx
  have HL : Hid _ := hL
  have HTI : Hid (isI (fol H x) = true → refW H L x = (1, iv (fol H x))) := fun e => by unfold refW; rw [if_pos e]
  have HTN : Hid (isI (fol H x) = false → isA (fol H x) = false → refW H L x = (0, 0)) := fun e1 e2 => by unfold refW; rw [if_neg (by rw [e1]; decide), if_neg (by rw [e2]; decide)]
  have HTA : Hid (isI (fol H x) = false → isA (fol H x) = true → refW H L x = (2, (idxM L (av (fol H x)) : Int) + 1) ∧ av (fol H x) ∈ L) := fun e1 e2 => ⟨by unfold refW; rw [if_neg (by rw [e1]; decide), if_pos e2], ht _ (by unfold tgt; rw [if_pos e2])⟩
  clear B1 h R hL hx ht
  obtain ⟨E, hE⟩ : ∃ E, refW H L x = E := ⟨_, rfl⟩
  rw [hE] at HTI HTN HTA ⊢
  clear hE
  generalize fol H x = y at *
  go_enter Tryz.func35, Tryz.ntmps35
  go_upto_region 1 with fail
  obtain ⟨X, hX, q0, q1, BX⟩ := HALL.out
  rw [← hX]
  clear hX HALL
  have HBX : Hid _ := BX
  have HQ1 : Hid _ := q1
  obtain ⟨⟨z0, z1, z2, z3, z4⟩, ⟨z5, z6, z7, z8⟩, _⟩ := nine_cells q0
  have FO := HFO.out X BX
  clear HFO q0 q1 BX
  go_wp2_with fail
  refine FO.mono ?_
  clear FO z0 z1 z2 z3 z4 z5 z6 z7 z8
  rintro e w3 ⟨rfl, b3⟩
  have q3 := (b3.block _ (lt_of_block HQ1.out)).trans HQ1.out
  obtain ⟨r0, r1, rf⟩ := gr.rb_cells q3
  have rf0 := rf 0
  have rf1 := rf 1
  have HQ3 : Hid _ := q3
  have HB3 : Hid _ := HBX.out.trans (b3.mono HBX.out.size)
  clear b3 q3 rf HBX HQ1
  have SI := sIntOf_any y
  cases dI : isI y
  · rw [dI] at SI
    have SA := sAddrOf_any y
    cases dA : isA y
    · rw [dA] at SA
      have HE : Hid _ := HTN.out dI dA
      clear dI dA HTI HTN HTA
      go_wp2_with (first
        | (go_at_call 52; refine (SI _).mono ?_; clear SI; rintro e w4 ⟨rfl, hw4⟩; rw [hw4]; clear hw4 w4)
        | (go_at_call 31; refine (SA _).mono ?_; clear SA; rintro e w4 ⟨rfl, hw4⟩; rw [hw4]; clear hw4 w4))
      exact bodyPost_ret (gr.res_rf rfl rfl (gr.rb_set HQ3.out 0 0)) rfl ⟨by rw [HE.out], (HB3.out.setCell (p := ⟨w.heap.size + 1, 0, none⟩) (Nat.le_succ _) _).setCell (p := ⟨w.heap.size + 1, 1, none⟩) (Nat.le_succ _) _⟩
    · rw [dA] at SA
      obtain ⟨hE, hm⟩ := HTA.out dI dA
      have HE : Hid _ := hE
      have HM : Hid _ := hm
      clear dI dA HTI HTN HTA hE hm
      generalize av y = a at *
      go_wp2_with (first
        | (go_at_call 52; refine (SI _).mono ?_; clear SI; rintro e w4 ⟨rfl, hw4⟩; rw [hw4]; clear hw4 w4)
        | (go_at_call 31; refine (SA _).mono ?_; clear SA; rintro e w4 ⟨rfl, hw4⟩; rw [hw4]; clear hw4 w4))
      go_loopw [11] (fun q wz => ∃ k : Nat, k ≤ L.length ∧ q = .int .i64 (k : Int) ∧ (∀ t, t < k → L.getD t 0 ≠ a) ∧ wz = w3) (fun q _ => L.length - (intOf q).toNat)
      case atStart => exact ⟨0, Nat.zero_le _, rfl, fun t ht => by omega, rfl⟩
      case round =>
        obtain ⟨k, hk, rfl, hne, rfl⟩ := hrel
        have hlt : k < L.length := by
          rcases Nat.lt_or_ge k L.length with h | h
          · exact h
          · obtain ⟨t, ht, et⟩ := List.getElem_of_mem HM.out
            exact absurd (by rw [List.getD_eq_getElem?_getD, List.getElem?_eq_getElem ht]; exact et) (hne t (by omega))
        obtain ⟨lb, lo, ea, hlb, x0⟩ := ints_cell (intsAt_below HL.out HB3.out) hlt
        subst ea
        have hlt' : (k : Int) < (L.length : Int) := by omega
        by_cases hka : L.getD k 0 = a
        · have HI : Hid _ := idxM_at hlt hka hne
          rw [hka] at x0
          have hka' : (a != a) = false := by simp
          clear hne hka
          go_wp2_with fail
          exact bodyPost_ret (gr.res_rf rfl rfl (gr.rb_set HQ3.out 2 ((k : Int) + 1))) rfl ⟨by rw [HE.out, HI.out], (HB3.out.setCell (p := ⟨w.heap.size + 1, 0, none⟩) (Nat.le_succ _) _).setCell (p := ⟨w.heap.size + 1, 1, none⟩) (Nat.le_succ _) _⟩
        · have HNE : Hid (∀ t, t < k + 1 → L.getD t 0 ≠ a) := fun t ht => by
            by_cases e : t = k
            · rw [e]; exact hka
            · exact hne t (by omega)
          have hka' : (L.getD k 0 != a) = true := by simpa using hka
          generalize L.getD k 0 = b at *
          clear hne
          go_wp2
          exact ⟨⟨k + 1, by omega, by go_num, HNE.out, by first | rfl | trivial⟩, by simp [intOf]; omega⟩
  · rw [dI] at SI
    have HE : Hid _ := HTI.out dI
    clear dI HTI HTN HTA
    generalize iv y = n at *
    go_wp2_with (go_at_call 52; refine (SI _).mono ?_; clear SI; rintro e w4 ⟨rfl, hw4⟩; rw [hw4]; clear hw4 w4)
    exact bodyPost_ret (gr.res_rf rfl rfl (gr.rb_set HQ3.out 1 n)) rfl ⟨by rw [HE.out], (HB3.out.setCell (p := ⟨w.heap.size + 1, 0, none⟩) (Nat.le_succ _) _).setCell (p := ⟨w.heap.size + 1, 1, none⟩) (Nat.le_succ _) _⟩
end Go.Proofs.YtacilbilnbmcbaaGreat.hp
